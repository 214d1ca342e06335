/- The document's Host.Say: any line. -/
import Derived.Test.YtadpibcgjgcjhabGreatDoorCnO0
import Derived.Test.YtadpibcgjgcjhabGreatDoorCnO1
import Derived.Test.YtadpibcgjgcjhabGreatDoorCnO2
import Derived.Test.YtadpibcgjgcjhabGreatDoorCnO3
import Derived.Test.YtadpibcgjgcjhabGreatDoorCnO4
import Derived.Test.YtadpibcgjgcjhabGreatDoorCnO5
namespace Go.Proofs.YtadpibcgjgcjhabGreatDoor
open Go.ChangeShapes Go.WideShapes Go.ChangeAt Go.RowKit
set_option maxRecDepth 100000
variable {W w w1 w2 w3 w' : World} {rh rm base : Nat} {bx bx2 : Nat → Nat} {v v2 : Nat → Value} {h h2 : Hs} {x : Gs} {n k j : Nat}

theorem say_none {h : Hs} {l : List UInt8} (e : readL l = none) : sayL h l = (errT 9, h) := by unfold sayL; rw [e]
theorem say_some {h : Hs} {l c : List UInt8} {ns : List Int} (e : readL l = some (c, ns)) : sayL h l = ansL h c (ns.getD 0 0) (ns.getD 1 0) (ns.getD 2 0) := by unfold sayL; rw [e]
theorem many_one {c : List UInt8} {m : Nat} {P : Prop} (hm : manyL c = some m) (p0 : c = kAdd → m = 0 → P) (p1 : c = kScanall → m = 0 → P) (p2 : c = kLeft → m = 0 → P) (p3 : c = kPromised → m = 0 → P) (p4 : c = kGuests → m = 0 → P) (p5 : c = kRemove → m = 1 → P) (p6 : c = kFrame → m = 1 → P) (p7 : c = kPlug → m = 2 → P) (p8 : c = kUnplug → m = 2 → P) (p9 : c = kGive → m = 2 → P) (p10 : c = kBack → m = 2 → P) (p11 : c = kLoad → m = 2 → P) (p12 : c = kRoot → m = 2 → P) (p13 : c = kForget → m = 2 → P) (p14 : c = kDrop → m = 2 → P) (p15 : c = kScan → m = 2 → P) (p16 : c = kPage → m = 2 → P) (p17 : c = kStore → m = 3 → P) : P := by
  unfold manyL at hm
  by_cases e0 : c = kAdd
  · rw [if_pos e0] at hm; cases hm; exact p0 e0 rfl
  rw [if_neg e0] at hm
  by_cases e1 : c = kScanall
  · rw [if_pos e1] at hm; cases hm; exact p1 e1 rfl
  rw [if_neg e1] at hm
  by_cases e2 : c = kLeft
  · rw [if_pos e2] at hm; cases hm; exact p2 e2 rfl
  rw [if_neg e2] at hm
  by_cases e3 : c = kPromised
  · rw [if_pos e3] at hm; cases hm; exact p3 e3 rfl
  rw [if_neg e3] at hm
  by_cases e4 : c = kGuests
  · rw [if_pos e4] at hm; cases hm; exact p4 e4 rfl
  rw [if_neg e4] at hm
  by_cases e5 : c = kRemove
  · rw [if_pos e5] at hm; cases hm; exact p5 e5 rfl
  rw [if_neg e5] at hm
  by_cases e6 : c = kFrame
  · rw [if_pos e6] at hm; cases hm; exact p6 e6 rfl
  rw [if_neg e6] at hm
  by_cases e7 : c = kPlug
  · rw [if_pos e7] at hm; cases hm; exact p7 e7 rfl
  rw [if_neg e7] at hm
  by_cases e8 : c = kUnplug
  · rw [if_pos e8] at hm; cases hm; exact p8 e8 rfl
  rw [if_neg e8] at hm
  by_cases e9 : c = kGive
  · rw [if_pos e9] at hm; cases hm; exact p9 e9 rfl
  rw [if_neg e9] at hm
  by_cases e10 : c = kBack
  · rw [if_pos e10] at hm; cases hm; exact p10 e10 rfl
  rw [if_neg e10] at hm
  by_cases e11 : c = kLoad
  · rw [if_pos e11] at hm; cases hm; exact p11 e11 rfl
  rw [if_neg e11] at hm
  by_cases e12 : c = kRoot
  · rw [if_pos e12] at hm; cases hm; exact p12 e12 rfl
  rw [if_neg e12] at hm
  by_cases e13 : c = kForget
  · rw [if_pos e13] at hm; cases hm; exact p13 e13 rfl
  rw [if_neg e13] at hm
  by_cases e14 : c = kDrop
  · rw [if_pos e14] at hm; cases hm; exact p14 e14 rfl
  rw [if_neg e14] at hm
  by_cases e15 : c = kScan
  · rw [if_pos e15] at hm; cases hm; exact p15 e15 rfl
  rw [if_neg e15] at hm
  by_cases e16 : c = kPage
  · rw [if_pos e16] at hm; cases hm; exact p16 e16 rfl
  rw [if_neg e16] at hm
  by_cases e17 : c = kStore
  · rw [if_pos e17] at hm; cases hm; exact p17 e17 rfl
  rw [if_neg e17] at hm
  cases hm
theorem Say_any (r : RHo w rh rm base bx v h) (ok : HOk h n k) (hk : k ≤ 1000) (s : ByteArray) (hs : s.size ≤ 300) :
    Calls Tryz.prog 8 #[.pointer (some ⟨rh, 0, none⟩), .string s] w (DP w rh rm base bx h (sayL h s.data.toList)) := by
  have hz : s.size = s.data.toList.length := (Array.length_toList (xs := s.data)).symm
  obtain ⟨c, args, hw⟩ : ∃ c args, wordsL s.data.toList = c :: args := by
    cases hw : wordsL s.data.toList with
    | nil => exact absurd hw (wordsL_ne _)
    | cons c args => exact ⟨c, args, rfl⟩
  by_cases h2 : 200 < s.size
  · rw [say_none (by unfold readL; rw [if_pos (by omega)])]
    exact say_bad1 r s hs c args hw (Or.inr h2)
  · by_cases hm : manyL c = some args.length
    · cases hn : args.mapM numW with
      | none =>
        rw [say_none (by unfold readL; rw [if_neg (by omega), hw]; simp only [hm, if_true, hn])]
        exact say_bad2 r s (by omega) c args hw hm hn
      | some ms =>
        rw [say_some (c := c) (ns := ms) (by unfold readL; rw [if_neg (by omega), hw]; simp only [hm, if_true, hn])]
        have hm' := hm
        refine many_one (m := args.length) hm' (fun e el => by subst e; exact Say_add r ok hk s (by omega) args hw el ms hn) (fun e el => by subst e; exact Say_scanall r ok hk s (by omega) args hw el ms hn) (fun e el => by subst e; exact Say_left r ok hk s (by omega) args hw el ms hn) (fun e el => by subst e; exact Say_promised r ok hk s (by omega) args hw el ms hn) (fun e el => by subst e; exact Say_guests r ok hk s (by omega) args hw el ms hn) (fun e el => by subst e; exact Say_remove r ok hk s (by omega) args hw el ms hn) (fun e el => by subst e; exact Say_frame r ok hk s (by omega) args hw el ms hn) (fun e el => by subst e; exact Say_plug r ok hk s (by omega) args hw el ms hn) (fun e el => by subst e; exact Say_unplug r ok hk s (by omega) args hw el ms hn) (fun e el => by subst e; exact Say_give r ok hk s (by omega) args hw el ms hn) (fun e el => by subst e; exact Say_back r ok hk s (by omega) args hw el ms hn) (fun e el => by subst e; exact Say_load r ok hk s (by omega) args hw el ms hn) (fun e el => by subst e; exact Say_root r ok hk s (by omega) args hw el ms hn) (fun e el => by subst e; exact Say_forget r ok hk s (by omega) args hw el ms hn) (fun e el => by subst e; exact Say_drop r ok hk s (by omega) args hw el ms hn) (fun e el => by subst e; exact Say_scan r ok hk s (by omega) args hw el ms hn) (fun e el => by subst e; exact Say_page r ok hk s (by omega) args hw el ms hn) (fun e el => by subst e; exact Say_store r ok hk s (by omega) args hw el ms hn)
    · rw [say_none (by unfold readL; rw [if_neg (by omega), hw]; simp only [hm, if_false])]
      exact say_bad1 r s hs c args hw (Or.inl hm)
end Go.Proofs.YtadpibcgjgcjhabGreatDoor
