/-
  The operations of 64-bit integers at natural numbers that are small. No program stands behind this text.
-/
import Derived.Test.YtpjgmekpnlpjaaaDoorQuiet
import Derived.Test.YtpjgmekpnlpjaaaDoorFldC
import Derived.Laws.BitsAllLaws
import Derived.Deep.LoopGhost
namespace Go.Proofs.YtpjgmekpnlpjaaaDoor
open Go.RowKit
set_option linter.unusedVariables false

theorem i64_xor_nat (a b : Nat) (ha : a < 4294967296) (hb : b < 4294967296) : bits .xor .i64 (a : Int) (b : Int) = ((a ^^^ b : Nat) : Int) := by
  have hx : a ^^^ b < 2 ^ 32 := Nat.xor_lt_two_pow (by omega) (by omega)
  show IntKind.i64.wrap ((BitVec.ofInt 64 (a : Int) ^^^ BitVec.ofInt 64 (b : Int)).toNat : Int) = _
  rw [BitVec.toNat_xor, ofInt_u64 a (by omega), ofInt_u64 b (by omega), IntWalk.i64_in _ (by omega)]
theorem i64_and1_nat (b : Nat) (hb : b < 9223372036854775808) : bits .and .i64 (b : Int) 1 = ((b % 2 : Nat) : Int) := by
  show IntKind.i64.wrap ((BitVec.ofInt 64 (b : Int) &&& BitVec.ofInt 64 1).toNat : Int) = _
  rw [BitVec.toNat_and, ofInt_u64 b (by omega), show (BitVec.ofInt 64 1).toNat = 1 by decide, Nat.and_one_is_mod, IntWalk.i64_in _ (by omega)]
theorem i64_or_nat (a b : Nat) (ha : a < 4294967296) (hb : b < 4294967296) : bits .or .i64 (a : Int) (b : Int) = ((a ||| b : Nat) : Int) := by
  have hx : a ||| b < 2 ^ 32 := Nat.or_lt_two_pow (by omega) (by omega)
  show IntKind.i64.wrap ((BitVec.ofInt 64 (a : Int) ||| BitVec.ofInt 64 (b : Int)).toNat : Int) = _
  rw [BitVec.toNat_or, ofInt_u64 a (by omega), ofInt_u64 b (by omega), IntWalk.i64_in _ (by omega)]
section
variable (t : TypeId)
theorem nxor (a b : Nat) (ha : a < 4294967296) (hb : b < 4294967296) : binOp .xor t (.int .i64 (a : Int)) (.int .i64 (b : Int)) = pure (.int .i64 ((a ^^^ b : Nat) : Int)) := by
  rw [binOp_xor]
  show pure (Value.int .i64 (bits .xor .i64 (a : Int) (b : Int))) = _
  rw [i64_xor_nat a b ha hb]
theorem nor (a b : Nat) (ha : a < 4294967296) (hb : b < 4294967296) : binOp .or t (.int .i64 (a : Int)) (.int .i64 (b : Int)) = pure (.int .i64 ((a ||| b : Nat) : Int)) := by
  rw [binOp_or]
  show pure (Value.int .i64 (bits .or .i64 (a : Int) (b : Int))) = _
  rw [i64_or_nat a b ha hb]
theorem nand1 (b : Nat) (hb : b < 9223372036854775808) : binOp .and t (.int .i64 (b : Int)) (.int .i64 1) = pure (.int .i64 ((b % 2 : Nat) : Int)) := by
  rw [binOp_and]
  show pure (Value.int .i64 (bits .and .i64 (b : Int) 1)) = _
  rw [i64_and1_nat b hb]
theorem nmul (a b : Nat) (h : a * b < 9223372036854775808) : binOp .mul t (.int .i64 (a : Int)) (.int .i64 (b : Int)) = pure (.int .i64 ((a * b : Nat) : Int)) := by
  rw [binOp_mul]
  simp only [Op.intArith]
  rw [show (a : Int) * (b : Int) = ((a * b : Nat) : Int) by push_cast; rfl, IntWalk.i64_in _ (by omega)]
theorem nadd (a b : Nat) (h : a + b < 9223372036854775808) : binOp .add t (.int .i64 (a : Int)) (.int .i64 (b : Int)) = pure (.int .i64 ((a + b : Nat) : Int)) := by
  rw [binOp_add]
  simp only [Op.intArith]
  rw [IntWalk.i64_in _ (by omega)]
  rfl
theorem nsub (a b : Nat) (h : b ≤ a) (ha : a < 9223372036854775808) : binOp .sub t (.int .i64 (a : Int)) (.int .i64 (b : Int)) = pure (.int .i64 ((a - b : Nat) : Int)) := by
  rw [binOp_sub]
  simp only [Op.intArith]
  rw [IntWalk.i64_in _ (by omega), Int.ofNat_sub h]
theorem nshl {k : IntKind} (a c : Nat) (hc : c ≤ 20) (h : a < 4294967296) : binOp .shl t (.int .i64 (a : Int)) (.int k (c : Int)) = pure (.int .i64 ((a * 2 ^ c : Nat) : Int)) := by
  have hp : 2 ^ c ≤ 1048576 := Nat.pow_le_pow_right (n := 2) (by decide) hc
  have h2 : a * 2 ^ c ≤ 4294967296 * 1048576 := Nat.mul_le_mul (by omega) hp
  rw [binOp_shl]
  simp only [Op.shift]
  rw [if_neg (by omega)]
  have hmin : min ((c : Int)).toNat IntKind.i64.bits = c := by simp [IntKind.bits]; omega
  rw [hmin, show (a : Int) * 2 ^ c = ((a * 2 ^ c : Nat) : Int) by push_cast; rfl, IntWalk.i64_in _ (by omega)]
theorem nshr {k : IntKind} (a c : Nat) (hc : c ≤ 20) (h : a < 9223372036854775808) : binOp .shr t (.int .i64 (a : Int)) (.int k (c : Int)) = pure (.int .i64 ((a / 2 ^ c : Nat) : Int)) := by
  rw [binOp_shr]
  simp only [Op.shift]
  rw [if_neg (by omega)]
  have hmin : min ((c : Int)).toNat IntKind.i64.bits = c := by simp [IntKind.bits]; omega
  rw [hmin, Int.fdiv_eq_ediv_of_nonneg _ (by have : (0 : Int) < 2 ^ c := Int.pow_pos (by omega); omega)]
  simp
theorem nquo (a c : Nat) (hc : 0 < c) (h : a < 9223372036854775808) : binOp .quo t (.int .i64 (a : Int)) (.int .i64 (c : Int)) = pure (.int .i64 ((a / c : Nat) : Int)) := by
  rw [binOp_quo]
  have hle : a / c ≤ a := Nat.div_le_self a c
  have e : IntKind.i64.wrap ((a : Int).tdiv (c : Int)) = ((a / c : Nat) : Int) := by
    rw [Int.tdiv_eq_ediv_of_nonneg (by omega), show (a : Int) / (c : Int) = ((a / c : Nat) : Int) from rfl]
    generalize a / c = x at *
    exact IntWalk.i64_in _ (by omega)
  simp only [Op.intDiv]
  rw [if_neg (by simp; omega), e]
theorem nrem (a c : Nat) (hc : 0 < c) : binOp .rem t (.int .i64 (a : Int)) (.int .i64 (c : Int)) = pure (.int .i64 ((a % c : Nat) : Int)) := by
  rw [binOp_rem]
  have e : (a : Int).tmod (c : Int) = ((a % c : Nat) : Int) := by
    rw [Int.tmod_eq_emod_of_nonneg (by omega)]; rfl
  simp only [Op.intDiv]
  rw [if_neg (by simp; omega), e]
theorem nremz (n : Int) (c : Nat) (hc : 0 < c) : binOp .rem t (.int .i64 n) (.int .i64 (c : Int)) = pure (.int .i64 (n.tmod (c : Int))) := by
  rw [binOp_rem]
  simp only [Op.intDiv]
  rw [if_neg (by simp; omega)]
end

end Go.Proofs.YtpjgmekpnlpjaaaDoor
