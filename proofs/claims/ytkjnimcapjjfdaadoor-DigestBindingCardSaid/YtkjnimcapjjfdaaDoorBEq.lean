/-
  bytes.Equal, walked.
-/
import Derived.Test.YtkjnimcapjjfdaaDoorInp
namespace Go.Proofs.YtkjnimcapjjfdaaDoor
open Go.RowKit
set_option linter.unusedVariables false

theorem list_beq (x y : List UInt8) : (x == y) = decide (x = y) := by rw [Bool.eq_iff_iff]; simp
set_option maxHeartbeats 400000 in
set_option maxRecDepth 100000 in
theorem bytesEqual_any (Ax Ay : Option Addr) (B cx cy : Nat) (x y : List UInt8) (w : World) (hx : Sl w B Ax 1 x.length (x.map bv)) (hy : Sl w B Ay 1 y.length (y.map bv)) :
    Calls Tryd.prog 61 #[.slice Ax x.length cx, .slice Ay y.length cy] w fun e w' => e = .returned (.bool (decide (x = y))) ∧ w = w' := by
  have h1 := conv_bytes (P := Tryd.prog) (T := 22) (S := 9) (e := 5) Tryd.underlying22 Tryd.underlying5 Tryd.underlying9 (c := cx) hx
  have h2 := conv_bytes (P := Tryd.prog) (T := 22) (S := 9) (e := 5) Tryd.underlying22 Tryd.underlying5 Tryd.underlying9 (c := cy) hy
  have HE := hideIt (list_beq x y)
  clear hx hy
  go_enter Tryd.func61, Tryd.ntmps61
  go_wp2
  go_ret
  exact ⟨by rw [← HE.out]; rfl, rfl⟩
end Go.Proofs.YtkjnimcapjjfdaaDoor
