/- The document's answer for chapter 4: each act of a guest in one form. -/
import Derived.Test.YtadpibcgjgcjhabGreatDoorGuF
import Derived.Test.YtadpibcgjgcjhabGreatDoorGuR
namespace Go.Proofs.YtadpibcgjgcjhabGreatDoor
open Go.ChangeShapes Go.WideShapes Go.ChangeAt Go.RowKit
set_option maxRecDepth 100000

/-- An act of a guest: what is told, the pool, the guest. -/
def gMap (g : Gs) (r : Int × Pl × Mp) : Int × Pl × Gs := (r.1, r.2.1, { g with m := r.2.2 })
def gPlug (s : Pl) (g : Gs) (n : Int) : Int × Pl × Gs := gMap g (plugR s g.m n)
def gUnplug (s : Pl) (g : Gs) (n : Int) : Int × Pl × Gs := gMap g (unplugR s g.m n)
def gGive (s : Pl) (g : Gs) (n : Int) (back : Bool) : Int × Pl × Gs := gMap g (giveR s g.m n back)
def gJoin (s : Pl) (g : Gs) (n f : Int) : Int × Pl × Gs := gMap g (joinR s g.m n f)
def gSeal (s : Pl) (g : Gs) (n : Int) : Int × Pl × Gs := ((sealR g.m n).1, s, { g with m := (sealR g.m n).2 })
def onS (s : Pl) (r : Int × Gs) : Int × Pl × Gs := (r.1, s, r.2)
theorem plug_rest (s : Pl) (m : Mp) (n : Int) (r : Nat → Option Value) : plugR s { m with rest := r } n = ((plugR s m n).1, (plugR s m n).2.1, { (plugR s m n).2.2 with rest := r }) := by
  unfold plugR
  repeat' split
  all_goals first | rfl | contradiction
theorem unplug_rest (s : Pl) (m : Mp) (n : Int) (r : Nat → Option Value) : unplugR s { m with rest := r } n = ((unplugR s m n).1, (unplugR s m n).2.1, { (unplugR s m n).2.2 with rest := r }) := by
  unfold unplugR
  repeat' split
  all_goals first | rfl | contradiction
theorem give_rest (s : Pl) (m : Mp) (n : Int) (b : Bool) (r : Nat → Option Value) : giveR s { m with rest := r } n b = ((giveR s m n b).1, (giveR s m n b).2.1, { (giveR s m n b).2.2 with rest := r }) := by
  unfold giveR
  repeat' split
  all_goals first | rfl | contradiction
theorem join_rest (s : Pl) (m : Mp) (n f : Int) (r : Nat → Option Value) : joinR s { m with rest := r } n f = ((joinR s m n f).1, (joinR s m n f).2.1, { (joinR s m n f).2.2 with rest := r }) := by
  unfold joinR
  repeat' split
  all_goals first | rfl | contradiction
theorem seal_rest (m : Mp) (n : Int) (r : Nat → Option Value) : sealR { m with rest := r } n = ((sealR m n).1, { (sealR m n).2 with rest := r }) := by
  unfold sealR
  repeat' split
  all_goals first | rfl | contradiction
/-- How an act of the document's guest ends. -/
def RPost (w : World) (bg bm base : Nat) (v : Value) (r : Int × Pl × Gs) (e : Ending) (w' : World) : Prop := e = .returned (.int .i64 r.1) ∧ RefAt w' bm r.2.1 ∧ (∃ v', RGu w' bg bm base v' r.2.2 ∧ Fr w v v') ∧ Upd (fun k => k = bm ∨ k = bg) w w'
/-- Where an act of the document's guest begins. -/
structure RPre (w : World) (bg bm base : Nat) (v : Value) (s : Pl) (g : Gs) (b : Mp) : Prop where
  gu : RGu w bg bm base v g
  ref : RefAt w bm s
  ne : bg ≠ bm
  inv : GInv s g b 1000000
  base : base ≤ w.heap.size
variable {w : World} {bg bm base : Nat} {v : Value} {s : Pl} {g : Gs} {b : Mp}
theorem RPre.m9 (h : RPre w bg bm base v s g b) : ∀ f, f < s.n → s.refs f ≤ 999999 := fun f hf => by have := h.inv.inv.le f hf; omega
theorem RPre.plug (h : RPre w bg bm base v s g b) (n : Int) : Calls Tryz.prog 38 #[.pointer (some ⟨bg, 0, none⟩), .int .i64 n] w (RPost w bg bm base v (gPlug s g n)) := by
  have hg := h.gu
  have := rPlug_any w bg bm n _ s hg.mp h.ref h.ne (fun f hf => by have := h.m9 f hf; omega)
  rw [plug_rest] at this
  refine this.mono ?_
  rintro e w' ⟨he, h1, h2, hu⟩
  exact ⟨he, h1, ⟨v, hg.map hu h2, Fr.refl _ _⟩, hu⟩
theorem RPre.unplug (h : RPre w bg bm base v s g b) (n : Int) : Calls Tryz.prog 37 #[.pointer (some ⟨bg, 0, none⟩), .int .i64 n] w (RPost w bg bm base v (gUnplug s g n)) := by
  have hg := h.gu
  have := rUnplug_any w bg bm n _ s hg.mp h.ref h.ne (fun f hf => by have := h.m9 f hf; omega)
  rw [unplug_rest] at this
  refine this.mono ?_
  rintro e w' ⟨he, h1, h2, hu⟩
  exact ⟨he, h1, ⟨v, hg.map hu h2, Fr.refl _ _⟩, hu⟩
theorem RPre.give (h : RPre w bg bm base v s g b) (n : Int) (back : Bool) : Calls Tryz.prog 40 #[.pointer (some ⟨bg, 0, none⟩), .int .i64 n, .bool back] w (RPost w bg bm base v (gGive s g n back)) := by
  have hg := h.gu
  have := rGive_any w bg bm n back _ s hg.mp h.ref h.ne (fun f hf => by have := h.m9 f hf; omega)
  rw [give_rest] at this
  refine this.mono ?_
  rintro e w' ⟨he, h1, h2, hu⟩
  exact ⟨he, h1, ⟨v, hg.map hu h2, Fr.refl _ _⟩, hu⟩
theorem RPre.join (h : RPre w bg bm base v s g b) (n f : Int) : Calls Tryz.prog 43 #[.pointer (some ⟨bg, 0, none⟩), .int .i64 n, .int .i64 f] w (RPost w bg bm base v (gJoin s g n f)) := by
  have hg := h.gu
  have := rJoin_any w bg bm n f _ s hg.mp h.ref h.ne h.m9
  rw [join_rest] at this
  refine this.mono ?_
  rintro e w' ⟨he, h1, h2, hu⟩
  exact ⟨he, h1, ⟨v, hg.map hu h2, Fr.refl _ _⟩, hu⟩
theorem RPre.seal (h : RPre w bg bm base v s g b) (n : Int) : Calls Tryz.prog 42 #[.pointer (some ⟨bg, 0, none⟩), .int .i64 n] w (RPost w bg bm base v (gSeal s g n)) := by
  have hg := h.gu
  have := rSeal_any w bg bm n _ hg.mp
  rw [seal_rest] at this
  refine this.mono ?_
  rintro e w' ⟨he, h2, hu⟩
  have hu' := hu.wide (T := fun k => k = bm ∨ k = bg) (fun _ e => Or.inr e)
  exact ⟨he, h.ref.upd hu (fun e => h.ne e.symm), ⟨v, hg.map hu' h2, Fr.refl _ _⟩, hu'⟩
theorem RPre.store (h : RPre w bg bm base v s g b) (addr x : Int) : Calls Tryz.prog 45 #[.pointer (some ⟨bg, 0, none⟩), .int .i64 addr, .int .u8 x] w (RPost w bg bm base v (gStore s g addr x)) := by
  have hg := h.gu
  exact gStore_any w bg bm base v g s b addr x hg h.ref h.ne h.inv h.base
theorem RPre.root (h : RPre w bg bm base v s g b) (n : Int) : Calls Tryz.prog 46 #[.pointer (some ⟨bg, 0, none⟩), .int .i64 n] w (RPost w bg bm base v (onS s (gRoot g n))) := by
  have hg := h.gu
  refine (gRoot_any w bg bm base v g n hg).mono ?_
  rintro e w' ⟨he, h2, hu⟩
  exact ⟨he, h.ref.upd hu (fun e => h.ne e.symm), ⟨v, h2, Fr.refl _ _⟩, hu.wide (fun _ e => Or.inr e)⟩
theorem RPre.forget (h : RPre w bg bm base v s g b) (addr : Int) : Calls Tryz.prog 47 #[.pointer (some ⟨bg, 0, none⟩), .int .i64 addr] w (RPost w bg bm base v (onS s (gForget g addr))) := by
  have hg := h.gu
  refine (gForget_any w bg bm base v g addr hg (World.block_lt_of_cell? w _ h.ref.num) h.base h.inv.len).mono ?_
  rintro e w' ⟨he, h2, hu⟩
  exact ⟨he, h.ref.upd hu (fun e => h.ne e.symm), h2, hu.wide (fun _ e => Or.inr e)⟩
theorem RPre.forgetAll (h : RPre w bg bm base v s g b) (n : Int) : Calls Tryz.prog 48 #[.pointer (some ⟨bg, 0, none⟩), .int .i64 n] w (RPost w bg bm base v (onS s (gForgetAll g n))) := by
  have hg := h.gu
  refine (gForgetAll_any w bg bm base v g n hg (World.block_lt_of_cell? w _ h.ref.num) h.base h.inv.len).mono ?_
  rintro e w' ⟨v', he, h2, hu, hf⟩
  exact ⟨he, h.ref.upd hu (fun e => h.ne e.symm), ⟨v', h2, hf⟩, hu.wide (fun _ e => Or.inr e)⟩
theorem RPre.load (h : RPre w bg bm base v s g b) (addr : Int) : Calls Tryz.prog 44 #[.pointer (some ⟨bg, 0, none⟩), .int .i64 addr] w fun e w' =>
    e = .returned (.tuple #[.int .u8 (gLoad s g addr).1.1, .int .i64 (gLoad s g addr).1.2]) ∧ RefAt w' bm (gLoad s g addr).2.1 ∧ (∃ v', RGu w' bg bm base v' (gLoad s g addr).2.2 ∧ Fr w v v') ∧ Upd (fun k => k = bm ∨ k = bg) w w' := by
  have hg := h.gu
  exact gLoad_any w bg bm base v g s b addr hg h.ref h.ne h.inv h.base
/-- What the map's acts keep. -/
theorem GInv.map {W : Int} (h : GInv s g b W) {r : Int × Pl × Mp} (hi : Inv r.2.1 r.2.2 b) (hb : BytOk r.2.1) : GInv (gMap g r).2.1 (gMap g r).2.2 b W := { h with inv := hi, byt := hb }
theorem share_byt (hb : BytOk s) (f d : Int) : BytOk (s.share f d).2 := fun a c => by rw [(share_same s f d).2]; exact hb a c
theorem turn_byt (hb : BytOk s) (m : Mp) (n : Nat) (z : Int) : BytOk (turnP s m n z) := by
  unfold turnP
  split
  · exact share_byt hb _ _
  · exact hb
theorem GInv.plug {W : Int} (h : GInv s g b W) (n : Int) : GInv (gPlug s g n).2.1 (gPlug s g n).2.2 b W := h.map (h.inv.plug n) (by
  unfold plugR
  repeat' split
  all_goals first | exact h.byt | exact turn_byt h.byt _ _ _)
theorem GInv.unplug {W : Int} (h : GInv s g b W) (n : Int) : GInv (gUnplug s g n).2.1 (gUnplug s g n).2.2 b W := h.map (h.inv.unplug n) (by
  unfold unplugR
  repeat' split
  all_goals first | exact h.byt | exact turn_byt h.byt _ _ _)
theorem GInv.give {W : Int} (h : GInv s g b W) (n : Int) (back : Bool) : GInv (gGive s g n back).2.1 (gGive s g n back).2.2 b W := h.map (h.inv.give n back) (by
  unfold giveR
  repeat' split
  all_goals first | exact h.byt | exact turn_byt h.byt _ _ _)
theorem GInv.join {W : Int} (h : GInv s g b W) (n f : Int) : GInv (gJoin s g n f).2.1 (gJoin s g n f).2.2 b W := h.map (h.inv.join n f) (by
  unfold joinR
  repeat' split
  all_goals first | exact h.byt | exact share_byt (share_byt h.byt _ _) _ _)
theorem GInv.seal {W : Int} (h : GInv s g b W) (n : Int) : GInv (gSeal s g n).2.1 (gSeal s g n).2.2 b W := { h with inv := h.inv.seal n }
end Go.Proofs.YtadpibcgjgcjhabGreatDoor
