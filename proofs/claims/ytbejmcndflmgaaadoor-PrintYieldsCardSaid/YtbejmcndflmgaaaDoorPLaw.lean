/-
  Small facts that the walks of the laws of layer 4 share.
-/
import Derived.Test.YtbejmcndflmgaaaDoorPSan
namespace Go.Proofs.YtbejmcndflmgaaaDoor
open Go.RowKit
set_option linter.unusedVariables false

theorem str_beq (a b : List UInt8) : ((str a).toList == (str b).toList) = decide (a = b) := by
  by_cases h : a = b
  · subst h; simp
  · rw [decide_eq_false h, beq_eq_false_iff_ne]
    intro he
    apply h
    have h2 : (str a).data.toList = (str b).data.toList := by simpa [ByteArray.toList_eq] using he
    rwa [str_list, str_list] at h2
theorem str_neqT (t : TypeId) {a b : List UInt8} (h : a ≠ b) : binOp .neq t (.string (str a)) (.string (str b)) = pure (.bool true) := by
  rw [binOp_string_neq, str_beq, decide_eq_false h]; rfl
theorem str_neqF (t : TypeId) (a : List UInt8) : binOp .neq t (.string (str a)) (.string (str a)) = pure (.bool false) := by
  rw [binOp_string_neq, str_beq, decide_eq_true rfl]; rfl
theorem str_eqlT (t : TypeId) (a : List UInt8) : binOp .eql t (.string (str a)) (.string (str a)) = pure (.bool true) := by
  rw [binOp_string_eql, str_beq, decide_eq_true rfl]
theorem str_eqlF (t : TypeId) {a b : List UInt8} (h : a ≠ b) : binOp .eql t (.string (str a)) (.string (str b)) = pure (.bool false) := by
  rw [binOp_string_eql, str_beq, decide_eq_false h]
theorem int_eqlF (t : TypeId) {a b : Int} (h : a ≠ b) : binOp .eql t (.int .i64 a) (.int .i64 b) = pure (.bool false) := by
  rw [binOp_eql, beq_eq_false_iff_ne.2 h]
theorem int_eqlT (t : TypeId) (a : Int) : binOp .eql t (.int .i64 a) (.int .i64 a) = pure (.bool true) := by
  rw [binOp_eql]; simp
theorem wv_eqlT (t : TypeId) (z : UInt32) : binOp .eql t (wv z) (wv z) = pure (.bool true) := by
  unfold wv
  rw [binOp_eql]
  simp
theorem wv_eqlF (t : TypeId) {a b : UInt32} (h : a ≠ b) : binOp .eql t (wv a) (wv b) = pure (.bool false) := by
  unfold wv
  rw [binOp_eql]
  have h1 : a.toNat ≠ b.toNat := fun e => h (UInt32.toNat_inj.1 e)
  have h2 : ((a.toNat : Int) == (b.toNat : Int)) = false := by rw [beq_eq_false_iff_ne]; omega
  rw [h2]
/-- A number that has a twin. -/
theorem tw_ok {l : List UInt8} {k : Int} (h : 0 ≤ k ∧ k < spc l.length) : twS l k = twin l k.toNat ∧ twE l k = 0 ∧ k.toNat + 32 < 8 * l.length ∧ l.length ≤ 2000 := by
  obtain ⟨h5, h6, h7⟩ := spc_some h
  exact ⟨by unfold twS; rw [if_pos h], by unfold twE; rw [if_pos h], by omega, by omega⟩
theorem tw_no {l : List UInt8} {k : Int} (h : ¬ (0 ≤ k ∧ k < spc l.length)) : twS l k = [] ∧ twE l k = 1 := ⟨by unfold twS; rw [if_neg h], by unfold twE; rw [if_neg h]⟩

end Go.Proofs.YtbejmcndflmgaaaDoor
