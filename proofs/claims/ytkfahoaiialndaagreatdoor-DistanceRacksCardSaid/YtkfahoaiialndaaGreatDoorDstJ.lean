/-
  What the listed tables of stage 9 give the walks, and the witness's world with a pinned table laid in it.
-/
import Derived.Test.YtkfahoaiialndaaGreatDoorRows
import Derived.Test.YtkfahoaiialndaaGreatDoorD9j
import Derived.LaidMore
import Derived.Lay
namespace Go.Proofs.YtkfahoaiialndaaGreatDoor
open Go.ChangeShapes Go.WideShapes Go.ChangeAt Go.RowKit
set_option linter.unusedVariables false

theorem of_laid9 {W : World} (h : laidMetH Tryz.prog Rows.distanceMatchesSpecRow.laid W) : Tabs W := by
  rw [MakeChecks.laidMetH_plain _ _ _ (by kernel_rfl)] at h
  obtain ⟨ps, ⟨g0, t0, cs0, f0, p0, q0, hg0, ht0, hv0, hd0, _, _⟩, _, _⟩ := h
  obtain rfl := Option.some.inj (gPol.symm.trans hg0)
  obtain rfl := Option.some.inj (tPol.symm.trans ht0)
  obtain ⟨a1, a2⟩ := tabl_of (n := 17) (by kernel_rfl) Tryz.underlying3 (by kernel_rfl) (by kernel_rfl) (by decide) (by rfl) gPol hv0 hd0 dPol
  exact ⟨a1, fun j hj => a2 j hj⟩
theorem door_shaped9 (os : Os) : (World.laidAll Tryz.prog os Rows.distanceMatchesSpecRow.laid).Shaped Tryz.prog := World.shaped_of_ZipB (by kernel_rfl) (by kernel_rfl)
theorem door_met9 (os : Os) (args : Array Value) : laidMetH Tryz.prog Rows.distanceMatchesSpecRow.laid ((World.laidAll Tryz.prog os Rows.distanceMatchesSpecRow.laid).forCall (fun _ _ => 0) ⟨#[], args, []⟩).memory := by
  rw [MakeChecks.laidMetH_plain _ _ _ (by kernel_rfl)]
  exact laidMet_laidAll _ (by kernel_rfl) (by kernel_rfl)

end Go.Proofs.YtkfahoaiialndaaGreatDoor
