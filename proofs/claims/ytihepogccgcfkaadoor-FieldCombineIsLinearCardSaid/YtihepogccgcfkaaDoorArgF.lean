/-
  Arguments that came in: integers of 16 and 32 bits.
-/
import Derived.Test.YtihepogccgcfkaaDoorArgE
import Derived.Test.YtihepogccgcfkaaDoorFldM
namespace Go.Proofs.YtihepogccgcfkaaDoor
open Go.ChangeShapes Go.WideShapes Go.ChangeAt Go.RowKit
set_option linter.unusedVariables false

theorem wf_u16 {n : Int} (h : (Lit.int .u16 n).wf = true) : 0 ≤ n ∧ n ≤ 65535 := by simpa [Lit.wf, IntKind.min, IntKind.max, IntKind.signed, IntKind.bits] using h
theorem wf_i32 {n : Int} (h : (Lit.int .i32 n).wf = true) : -2147483648 ≤ n ∧ n ≤ 2147483647 := by simpa [Lit.wf, IntKind.min, IntKind.max, IntKind.signed, IntKind.bits] using h
theorem nat_u16 {n : Int} (h : 0 ≤ n ∧ n ≤ 65535) : ∃ x : Nat, n = (x : Int) ∧ x < 65536 := ⟨n.toNat, by omega, by omega⟩

end Go.Proofs.YtihepogccgcfkaaDoor
