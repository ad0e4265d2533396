/-
  What the listed table of powers of ten gives the walks, and the witness's world with a pinned table laid in it.
-/
import Derived.Test.YtcogkdnlpjfgdaaGreatDoorRows
import Derived.Test.YtcogkdnlpjfgdaaGreatDoorLpA
import Derived.ProofKit
import Derived.LaidMore
import Derived.OpenShut
import Derived.Stop.Joined
import Derived.Lay
import Derived.Lib.LaidTab
namespace Go.Proofs.YtcogkdnlpjfgdaaGreatDoor
open Go.ChangeShapes Go.WideShapes Go.ChangeAt Go.RowKit
set_option linter.unusedVariables false

theorem gPow : Tryz.prog.globalNamed "internal/strconv.uint64pow10" = some 2 := by kernel_rfl
theorem tPow : (Tryz.prog.globals[2]?).map (·.type) = some 156 := by kernel_rfl
theorem dPow {H : Type} : (Rows.laid_internal_strconv_uint64pow10 : DataW H) = Lib.tabData .u64 Lib.pow10Tab := by kernel_rfl
theorem tab_of {H : Type} {enc : TypeId × Value → H} {W : World} {cs : Array Value} {fuel : Nat} {q : List MemPlace} {held : Bool} {spare : Nat → Bool} {b : Nat}
    (hv : W.var? Tryz.prog "internal/strconv.uint64pow10" = some cs) (hd : DataW.trod enc Tryz.prog W b spare held fuel 156 cs.toList = some (Rows.laid_internal_strconv_uint64pow10, q)) : TabW W := by
  rw [dPow] at hd
  unfold TabW Lib.TabIs
  rw [hv, ← Lib.cells_of_tab (e := 143) (n := 20) (by kernel_rfl) Tryz.underlying143 (by kernel_rfl) (by kernel_rfl) hd]
theorem of_laid7 {W : World} (h : laidMetH Tryz.prog Rows.langParseMatchesSpecRow.laid W) : TabW W := by
  rw [MakeChecks.laidMetH_plain _ _ _ (by kernel_rfl)] at h
  obtain ⟨ps, ⟨_, _, _, _, _, _, _, _, _, _, ⟨_, _, _, _, _, _, _, _, _, _, ⟨g2, t2, cs2, f2, p2, q2, hg2, ht2, hv2, hd2, _, _⟩, _⟩, _⟩, _⟩ := h
  obtain rfl := Option.some.inj (gPow.symm.trans hg2)
  obtain rfl := Option.some.inj (tPow.symm.trans ht2)
  exact tab_of hv2 hd2
theorem door_shaped7 (os : Os) : (World.laidAll Tryz.prog os Rows.langParseMatchesSpecRow.laid).Shaped Tryz.prog := World.shaped_of_ZipB (by kernel_rfl) (by kernel_rfl)
theorem door_met7 (os : Os) (args : Array Value) : laidMetH Tryz.prog Rows.langParseMatchesSpecRow.laid ((World.laidAll Tryz.prog os Rows.langParseMatchesSpecRow.laid).forCall (fun _ _ => 0) ⟨#[], args, []⟩).memory := by
  rw [MakeChecks.laidMetH_plain _ _ _ (by kernel_rfl)]
  exact laidMet_laidAll _ (by kernel_rfl) (by kernel_rfl)

end Go.Proofs.YtcogkdnlpjfgdaaGreatDoor
