/- The errors' numbers that a map tells are none below nought. -/
import Derived.Test.YtfdppnnechdpeaaLvE
namespace Go.Proofs.Ytfdppnnechdpeaa
open Go.ChangeShapes Go.WideShapes Go.ChangeAt Go.RowKit

theorem plug_code (s : Pl) (m : Mp) (n : Int) : 0 ≤ (plugR s m n).1 := by
  unfold plugR
  split
  · split <;> simp
  · simp
theorem unplug_code (s : Pl) (m : Mp) (n : Int) : 0 ≤ (unplugR s m n).1 := by
  unfold unplugR
  split
  · split <;> simp
  · simp
theorem give_code (s : Pl) (m : Mp) (n : Int) (b : Bool) : 0 ≤ (giveR s m n b).1 := by
  unfold giveR
  split
  · split
    · split <;> simp
    · split <;> simp
  · simp
theorem seal_code (m : Mp) (n : Int) : 0 ≤ (sealR m n).1 := by
  unfold sealR
  split
  · split <;> simp
  · simp
theorem join_code (s : Pl) (m : Mp) (n f : Int) : 0 ≤ (joinR s m n f).1 := by
  unfold joinR
  split
  · split <;> simp
  · simp
theorem touch_code (s : Pl) (m : Mp) (n : Int) (wt : Bool) : 0 ≤ (touchR s m n wt).1.2.2 := by
  unfold touchR
  split
  · split
    · simp
    · split
      · simp
      · split
        · simp
        · split
          · simp
          · split
            · simp
            · exact take_code s
  · simp
end Go.Proofs.Ytfdppnnechdpeaa
