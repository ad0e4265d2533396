/-
  The field's functions at elements: what the laws of layer 5 call.
-/
import Derived.Test.YtihepogccgcfkaaDoorFSan
namespace Go.Proofs.YtihepogccgcfkaaDoor
open Go.RowKit Go.Shelf
set_option linter.unusedVariables false

section
variable {m x y : Nat} (hm : Fm m) (hx : x < 2 ^ m)
include hm hx
theorem mlR_ok (hy : y < 2 ^ m) : mlR (m : Int) (x : Int) (y : Int) = (mul m x y, 0) := by
  unfold mlR; rw [if_pos ⟨vd_true hm hx, vd_true hm hy⟩]; rfl
theorem addR_ok (hy : y < 2 ^ m) : addR (m : Int) (x : Int) (y : Int) = (x ^^^ y, 0) := by
  unfold addR; rw [if_pos ⟨vd_true hm hx, vd_true hm hy⟩]; rfl
theorem powR_ok (h0 : x ≠ 0) (n : Int) : powR (m : Int) (x : Int) n = (pwZ m x n, 0) := by
  unfold powR; rw [if_pos (vd_true hm hx), if_neg (by omega)]; rfl
theorem invR_ok (h0 : x ≠ 0) : invR (m : Int) (x : Int) = (pwZ m x (-1), 0) := powR_ok hm hx h0 (-1)
theorem divR_ok (hy : y < 2 ^ m) (h0 : y ≠ 0) : divR (m : Int) (x : Int) (y : Int) = (mul m x (inv m y), 0) := by
  unfold divR
  rw [if_pos (vd_true hm hx), invR_ok hm hy h0]
  rw [if_pos rfl, pwZ_inv hm hy h0]
  rfl
theorem divR_zero (h0 : y = 0) : divR (m : Int) (x : Int) (y : Int) = (0, 12) := by
  subst h0
  unfold divR
  have h : invR (m : Int) ((0 : Nat) : Int) = (0, 12) := by
    unfold invR powR
    rw [if_pos (vd_true hm (Nat.two_pow_pos m)), if_pos (by omega)]
  rw [if_pos (vd_true hm hx), h]
  rfl
theorem logR_ok (h0 : x ≠ 0) : logR (m : Int) (x : Int) = (lg m x, 0) := by
  unfold logR; rw [if_pos (vd_true hm hx), if_neg (by omega)]; rfl
end
theorem logR_zero {m : Nat} (hm : Fm m) : logR (m : Int) 0 = (0, 12) := by
  have h : vd (m : Int) 0 = true := vd_true (a := 0) hm (Nat.two_pow_pos m)
  unfold logR; rw [if_pos h, if_pos rfl]
theorem logR_bad {m : Nat} (hm : Fm m) : logR (m : Int) ((2 ^ m : Nat) : Int) = (0, 1) := by
  have h : vd (m : Int) ((2 ^ m : Nat) : Int) = false := by rcases hm with rfl | rfl <;> decide
  unfold logR; rw [h]; rfl

section
variable {w W : World} (hT : Tabs w) {m x y : Nat} (hm : Fm m) (hx : x < 2 ^ m)
include hT hm hx
theorem mulN (hy : y < 2 ^ m) (z : Nat) (hz : mul m x y = z) : ∀ W, Below w.heap.size w W → Calls Tryd.prog 12 #[.int .i64 (m : Int), .int .i64 (x : Int), .int .i64 (y : Int)] W fun e w' => e = .returned (.tuple #[.int .i64 (z : Int), .int .i64 0]) ∧ Below w.heap.size w w' := fun W hW => by
  have h := mul_b hT hW (m : Int) (x : Int) (y : Int)
  rw [mlR_ok hm hx hy, hz] at h
  exact h
theorem addN (hy : y < 2 ^ m) (z : Nat) (hz : x ^^^ y = z) : ∀ W, Below w.heap.size w W → Calls Tryd.prog 10 #[.int .i64 (m : Int), .int .i64 (x : Int), .int .i64 (y : Int)] W fun e w' => e = .returned (.tuple #[.int .i64 (z : Int), .int .i64 0]) ∧ Below w.heap.size w w' := fun W hW => by
  have h := add_b hT hW (m : Int) (x : Int) (y : Int)
  rw [addR_ok hm hx hy, hz] at h
  exact h
theorem divN (hy : y < 2 ^ m) (h0 : y ≠ 0) (z : Nat) (hz : mul m x (inv m y) = z) : ∀ W, Below w.heap.size w W → Calls Tryd.prog 16 #[.int .i64 (m : Int), .int .i64 (x : Int), .int .i64 (y : Int)] W fun e w' => e = .returned (.tuple #[.int .i64 (z : Int), .int .i64 0]) ∧ Below w.heap.size w w' := fun W hW => by
  have h := div_b hT hW (m : Int) (x : Int) (y : Int)
  rw [divR_ok hm hx hy h0, hz] at h
  exact h
theorem divZ (h0 : y = 0) : ∀ W, Below w.heap.size w W → Calls Tryd.prog 16 #[.int .i64 (m : Int), .int .i64 (x : Int), .int .i64 (y : Int)] W fun e w' => e = .returned (.tuple #[.int .i64 0, .int .i64 12]) ∧ Below w.heap.size w w' := fun W hW => by
  have h := div_b hT hW (m : Int) (x : Int) (y : Int)
  rw [divR_zero hm hx h0] at h
  exact h
theorem powN (h0 : x ≠ 0) (n : Int) (h64 : -9223372036854775808 ≤ n ∧ n ≤ 9223372036854775807) (z : Nat) (hz : pwZ m x n = z) : ∀ W, Below w.heap.size w W → Calls Tryd.prog 18 #[.int .i64 (m : Int), .int .i64 (x : Int), .int .i64 n] W fun e w' => e = .returned (.tuple #[.int .i64 (z : Int), .int .i64 0]) ∧ Below w.heap.size w w' := fun W hW => by
  have h := pow_b hT hW (m : Int) (x : Int) n h64
  rw [powR_ok hm hx h0, hz] at h
  exact h
theorem invN (h0 : x ≠ 0) (z : Nat) (hz : pwZ m x (-1) = z) : ∀ W, Below w.heap.size w W → Calls Tryd.prog 14 #[.int .i64 (m : Int), .int .i64 (x : Int)] W fun e w' => e = .returned (.tuple #[.int .i64 (z : Int), .int .i64 0]) ∧ Below w.heap.size w w' := fun W hW => by
  have h := inv_b hT hW (m : Int) (x : Int)
  rw [invR_ok hm hx h0, hz] at h
  exact h
theorem logN (h0 : x ≠ 0) (z : Nat) (hz : lg m x = z) : ∀ W, Below w.heap.size w W → Calls Tryd.prog 28 #[.int .i64 (m : Int), .int .i64 (x : Int)] W fun e w' => e = .returned (.tuple #[.int .i64 (z : Int), .int .i64 0]) ∧ Below w.heap.size w w' := fun W hW => by
  have h := log_b hT hW (m : Int) (x : Int)
  rw [logR_ok hm hx h0, hz] at h
  exact h
omit hT in
theorem rlogN (h0 : x ≠ 0) (z : Nat) (hz : lg m x = z) : ∀ W, Calls Tryd.prog 29 #[.int .i64 (m : Int), .int .i64 (x : Int)] W fun e w' => e = .returned (.tuple #[.int .i64 (z : Int), .int .i64 0]) ∧ W = w' := fun W => by
  have h := rlog_any (m : Int) (x : Int) W
  rw [logR_ok hm hx h0, hz] at h
  exact h
end
theorem logZ {w : World} (hT : Tabs w) {m : Nat} (hm : Fm m) : ∀ W, Below w.heap.size w W → Calls Tryd.prog 28 #[.int .i64 (m : Int), .int .i64 0] W fun e w' => e = .returned (.tuple #[.int .i64 0, .int .i64 12]) ∧ Below w.heap.size w w' := fun W hW => by
  have h := log_b hT hW (m : Int) 0
  rw [logR_zero hm] at h
  exact h
theorem logB {w : World} (hT : Tabs w) {m : Nat} (hm : Fm m) : ∀ W, Below w.heap.size w W → Calls Tryd.prog 28 #[.int .i64 (m : Int), .int .i64 ((2 ^ m : Nat) : Int)] W fun e w' => e = .returned (.tuple #[.int .i64 0, .int .i64 1]) ∧ Below w.heap.size w w' := fun W hW => by
  have h := log_b hT hW (m : Int) ((2 ^ m : Nat) : Int)
  rw [logR_bad hm] at h
  exact h
theorem int_neqF (t : TypeId) {a b : Int} (h : a = b) : binOp .neq t (.int .i64 a) (.int .i64 b) = pure (.bool false) := by
  rw [binOp_neq, h]; simp
theorem int_neqT (t : TypeId) {a b : Int} (h : a ≠ b) : binOp .neq t (.int .i64 a) (.int .i64 b) = pure (.bool true) := by
  rw [binOp_neq, bne_iff_ne.2 h]
theorem conv_u16 (x : Nat) (h : x < 65536) (W : World) : (convert 38 3 (.int .u16 (x : Int))).run Tryd.prog W = .ok (.int .i64 (x : Int)) W := by
  rw [run_convert_int (P := Tryd.prog) W 38 3 .u16 _ (by kernel_rfl) (by kernel_rfl), show Tryd.prog.intKind 3 = .i64 by kernel_rfl, IntWalk.i64_in _ (by omega)]
theorem conv_i32 (x : Int) (h : -2147483648 ≤ x ∧ x ≤ 2147483647) (W : World) : (convert 21 3 (.int .i32 x)).run Tryd.prog W = .ok (.int .i64 x) W := by
  rw [run_convert_int (P := Tryd.prog) W 21 3 .i32 _ (by kernel_rfl) (by kernel_rfl), show Tryd.prog.intKind 3 = .i64 by kernel_rfl, IntWalk.i64_in _ (by omega)]

end Go.Proofs.YtihepogccgcfkaaDoor
