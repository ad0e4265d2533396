/-
  What stage 9 stands on, cut out of older texts. (ArgM.)
-/
import Derived.Test.YtkfahoaiialndaaGreatDoorD9a
namespace Go.Proofs.YtkfahoaiialndaaGreatDoor
set_option linter.unusedVariables false
set_option linter.unusedSimpArgs false
set_option linter.unusedSectionVars false

section
open Go.ChangeShapes Go.WideShapes Go.ChangeAt Go.RowKit
set_option linter.unusedVariables false
section
variable {H : Type} {enc : TypeId × Value → H} {w : World}
theorem open_nums6 {A : Option Addr} {len cap : Nat} {fuel : Nat} {x : DataW H × List MemPlace} (hf : DataW.trod enc Tryz.prog w 0 (fun _ => true) true fuel 26 [.slice A len cap] = some x) :
    len ≤ cap ∧ cap ≤ maxLen ∧ ∃ l : List Int, l.length = len ∧ Sl w w.heap.size A 1 len (l.map iv) := by
  obtain ⟨h1, h2, hd, css, h3, h4, h5⟩ := open_elems (size := 1) Tryz.underlying26 (by kernel_rfl) (by omega) (fun cs => ∃ n : Int, cs = [iv n] ∧ -9223372036854775808 ≤ n ∧ n ≤ 9223372036854775807) (fun n cs y _ hy => by
    obtain ⟨m, rfl, _, hw⟩ := DataW.trod_int Tryz.underlying3 hy
    exact ⟨m, rfl, wf_i64 hw⟩) hf
  obtain ⟨l, q1, q2, q3⟩ := nums_of css h4
  exact ⟨h1, h2, l, q1.trans h3, q2 ▸ h5⟩
theorem open_il {A : Option Addr} {len cap : Nat} {d : DataW H} {p : List MemPlace} (h : DataW.Trod enc Tryz.prog w 0 (fun _ => true) true 26 (.slice A len cap) d p) :
    ∃ l : List Int, l.length = len ∧ Sl w w.heap.size A 1 len (l.map iv) ∧ len ≤ cap ∧ cap ≤ maxLen := by
  obtain ⟨fuel, hf⟩ := h
  obtain ⟨h1, h2, l, h3, h4⟩ := open_nums6 (show DataW.trod enc Tryz.prog w 0 (fun _ => true) true fuel 26 [.slice A len cap] = some _ from hf)
  exact ⟨l, h3, h4, h1, h2⟩
end
end

end Go.Proofs.YtkfahoaiialndaaGreatDoor
