/- Acts on pages, plainly: an error turns nothing; no error, and the number is a page's. -/
import Derived.Test.YtadpibcgjgcjhabGreatDoorGuR
import Derived.Test.YtadpibcgjgcjhabGreatDoorLvE
namespace Go.Proofs.YtadpibcgjgcjhabGreatDoor

variable {s : Pl} {m : Mp} {n f : Int} {b wt : Bool}
theorem plug_no (he : (plugR s m n).1 ≠ 0) : (plugR s m n).2 = (s, m) := by
  revert he
  unfold plugR
  repeat' split
  all_goals first | (intro _; rfl) | (intro h; exact absurd rfl h)
theorem unplug_no (he : (unplugR s m n).1 ≠ 0) : (unplugR s m n).2 = (s, m) := by
  revert he
  unfold unplugR
  repeat' split
  all_goals first | (intro _; rfl) | (intro h; exact absurd rfl h)
theorem give_no (he : (giveR s m n b).1 ≠ 0) : (giveR s m n b).2 = (s, m) := by
  revert he
  unfold giveR
  repeat' split
  all_goals first | (intro _; rfl) | (intro h; exact absurd rfl h)
theorem seal_no (he : (sealR m n).1 ≠ 0) : (sealR m n).2 = m := by
  revert he
  unfold sealR
  repeat' split
  all_goals first | (intro _; rfl) | (intro h; exact absurd rfl h)
theorem join_no (he : (joinR s m n f).1 ≠ 0) : (joinR s m n f).2 = (s, m) := by
  revert he
  unfold joinR
  repeat' split
  all_goals first | (intro _; rfl) | (intro h; exact absurd rfl h)
theorem plug_on (he : (plugR s m n).1 = 0) : onB n = true := by
  revert he
  unfold plugR
  repeat' split
  all_goals first | (intro _; assumption) | (intro h; simp at h)
theorem unplug_on (he : (unplugR s m n).1 = 0) : onB n = true := by
  revert he
  unfold unplugR
  repeat' split
  all_goals first | (intro _; assumption) | (intro h; simp at h)
theorem give_on (he : (giveR s m n b).1 = 0) : onB n = true := by
  revert he
  unfold giveR
  repeat' split
  all_goals first | (intro _; assumption) | (intro h; simp at h)
theorem seal_on (he : (sealR m n).1 = 0) : onB n = true := by
  revert he
  unfold sealR
  repeat' split
  all_goals first | (intro _; assumption) | (intro h; simp at h)
theorem join_on (he : (joinR s m n f).1 = 0) : onB n = true := by
  revert he
  unfold joinR
  repeat' split
  all_goals first | (intro _; assumption) | (intro h; simp at h)
end Go.Proofs.YtadpibcgjgcjhabGreatDoor
