/-
  The field's functions at elements, over a base world: what layer 6 calls.
-/
import Derived.Test.YtpjgmekpnlpjaaaDoorFldF
import Derived.Test.YtpjgmekpnlpjaaaDoorFldRi
namespace Go.Proofs.YtpjgmekpnlpjaaaDoor
open Go.RowKit
set_option linter.unusedVariables false

section
variable {m x y : Nat} (hm : Fm m) (hx : x < 2 ^ m)
include hm hx
theorem mlR_is (hy : y < 2 ^ m) : mlR (m : Int) (x : Int) (y : Int) = (mul m x y, 0) := by
  unfold mlR; rw [if_pos ⟨vd_true hm hx, vd_true hm hy⟩]; rfl
theorem addR_is (hy : y < 2 ^ m) : addR (m : Int) (x : Int) (y : Int) = (x ^^^ y, 0) := by
  unfold addR; rw [if_pos ⟨vd_true hm hx, vd_true hm hy⟩]; rfl
theorem invR_is (h0 : x ≠ 0) : invR (m : Int) (x : Int) = (inv m x, 0) := by
  unfold invR powR; rw [if_pos (vd_true hm hx), if_neg (by omega)]
  show (pwZ m x (-1), (0 : Int)) = _
  rw [pwZ_inv hm hx h0]
end
/-- A call that changes nothing but the tape. -/
def Quietly (w : World) (v : Value) (e : Ending) (w' : World) : Prop := e = .returned v ∧ ∃ k, w' = w.drewN k
section
variable {w : World} (hT : Tabs w) {m x y : Nat} (hm : Fm m) (hx : x < 2 ^ m)
include hT hm hx
theorem fmul_is (hy : y < 2 ^ m) (n : Nat) : Calls Tryd.prog 79 #[.int .i64 (m : Int), .int .i64 (x : Int), .int .i64 (y : Int)] (w.drewN n) fun e w' => e = .returned (.tuple #[.int .i64 ((mul m x y : Nat) : Int), .int .i64 0]) ∧ ∃ k, w' = w.drewN k := by
  have h := mul_any (m : Int) (x : Int) (y : Int) w hT n
  rw [mlR_is hm hx hy] at h
  exact h
theorem fadd_is (hy : y < 2 ^ m) (n : Nat) : Calls Tryd.prog 80 #[.int .i64 (m : Int), .int .i64 (x : Int), .int .i64 (y : Int)] (w.drewN n) fun e w' => e = .returned (.tuple #[.int .i64 ((x ^^^ y : Nat) : Int), .int .i64 0]) ∧ ∃ k, w' = w.drewN k := by
  have h := add_any (m : Int) (x : Int) (y : Int) w hT n
  rw [addR_is hm hx hy] at h
  exact h
theorem finv_is (h0 : x ≠ 0) (n : Nat) : Calls Tryd.prog 81 #[.int .i64 (m : Int), .int .i64 (x : Int)] (w.drewN n) fun e w' => e = .returned (.tuple #[.int .i64 ((inv m x : Nat) : Int), .int .i64 0]) ∧ ∃ k, w' = w.drewN k := by
  have h := inv_any (m : Int) (x : Int) w hT n
  rw [invR_is hm hx h0] at h
  exact h
end

end Go.Proofs.YtpjgmekpnlpjaaaDoor
