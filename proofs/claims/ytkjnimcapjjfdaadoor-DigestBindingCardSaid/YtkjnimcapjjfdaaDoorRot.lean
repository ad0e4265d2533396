/-
  The rotation of a word, walked: bits.RotateLeft32, digest.rotr, the reference's rotr.
-/
import Derived.Test.YtkjnimcapjjfdaaDoorRows
import Derived.Test.YtkjnimcapjjfdaaDoorLib
import Derived.Test.YtkjnimcapjjfdaaDoorWord
import Derived.Test.YtkjnimcapjjfdaaDoorQuiet
namespace Go.Proofs.YtkjnimcapjjfdaaDoor
open Go.RowKit
set_option linter.unusedVariables false
attribute [local go_sem] binOp_add_wv binOp_and_wv binOp_or_wv binOp_xor_wv binOp_shr_wv binOp_shl_wv unary_xor_wv run_convert_wv run_store_wv

/-- A word turned right. -/
def rot (x : UInt32) (n : Nat) : UInt32 := shr x n ||| shl x (32 - n)

def Turns : List Nat := [2, 6, 7, 11, 13, 17, 18, 19, 22, 25]

theorem turn_low (n : Nat) (hn : n ∈ Turns) : 2 ≤ n ∧ n ≤ 25 := by
  simp only [Turns, List.mem_cons, List.mem_nil_iff, or_false] at hn
  omega
theorem turn_mask (n : Nat) (hn : n ∈ Turns) : bits .and .u64 (IntKind.u64.wrap (-(n : Int))) 31 = ((32 - n : Nat) : Int) := by
  simp only [Turns, List.mem_cons, List.mem_nil_iff, or_false] at hn
  rcases hn with rfl | rfl | rfl | rfl | rfl | rfl | rfl | rfl | rfl | rfl <;> rfl

theorem rot_or (x : UInt32) (n : Nat) : shl x (32 - n) ||| shr x n = rot x n := by
  unfold rot; exact UInt32.or_comm _ _
theorem ret_w {x y : UInt32} (h : x = y) : Ending.returned (wv x) = Ending.returned (wv y) := by rw [h]

set_option maxHeartbeats 400000 in
theorem rotl_any (x : UInt32) (n : Nat) (hn : n ∈ Turns) (w : World) :
    Calls Tryd.prog 62 #[wv x, .int .i64 (-(n : Int))] w fun e w' => e = .returned (wv (rot x n)) ∧ w = w' := by
  have hm := turn_mask n hn
  obtain ⟨h1, h2⟩ := turn_low n hn
  obtain ⟨m, hm0⟩ : ∃ m, m = 32 - n := ⟨_, rfl⟩
  have HM := hideIt hm0
  rw [← hm0] at hm
  have h3 : (0 : Int) ≤ (m : Int) := by omega
  have h4 : (m : Int) ≤ 31 := by omega
  have hb : binOp .shr 60 (wv x) (.int .u64 (32 - (m : Int))) = pure (wv (shr x n)) := by
    rw [binOp_shr_wv _ _ _ _ (by omega) (by omega), show (32 - (m : Int)).toNat = n by omega]
  clear hn hm0
  go_enter Tryd.func62, Tryd.ntmps62
  go_wp2
  go_ret
  exact ⟨ret_w (by rw [HM.out]; exact rot_or x n), rfl⟩

set_option maxHeartbeats 400000 in
theorem turn_any (x : UInt32) (n : Nat) (hn : n ∈ Turns) (w : World) :
    Calls Tryd.prog 54 #[wv x, .int .i64 (n : Int)] w fun e w' => e = .returned (wv (rot x n)) ∧ w = w' := by
  have HN := hideIt hn
  obtain ⟨h1, h2⟩ := turn_low n hn
  clear hn
  go_enter Tryd.func54, Tryd.ntmps54
  go_wp2_with (go_at_call 62; refine (rotl_any x n HN.out _).mono ?_; rintro e w' ⟨rfl, rfl⟩)
  go_ret
  exact ⟨rfl, rfl⟩

set_option maxHeartbeats 400000 in
theorem refTurn_any (x : UInt32) (n : Nat) (hn : n ∈ Turns) (w : World) :
    Calls Tryd.prog 34 #[wv x, .int .i64 (n : Int)] w fun e w' => e = .returned (wv (rot x n)) ∧ ∃ k, w' = w.drewN k := by
  obtain ⟨h1, h2⟩ := turn_low n hn
  have ha : binOp .shr 60 (wv x) (.int .i64 (n : Int)) = pure (wv (shr x n)) := by
    rw [binOp_shr_wv _ _ _ _ (by omega) (by omega), Int.toNat_natCast]
  have hb : binOp .shl 60 (wv x) (.int .i64 (32 - (n : Int))) = pure (wv (shl x (32 - n))) := by
    rw [binOp_shl_wv _ _ _ _ (by omega) (by omega), show (32 - (n : Int)).toNat = 32 - n by omega]
  clear hn
  have hw : IntKind.i64.wrap (32 - (n : Int)) = 32 - (n : Int) := IntWalk.i64_in _ (by omega)
  go_enter Tryd.func34, Tryd.ntmps34
  go_wp2
  go_quiet (fail)
  go_wp2
  go_ret
  exact ⟨rfl, _, rfl⟩

theorem turn_s (x : UInt32) (m : Int) (hm : m.toNat ∈ Turns) (h0 : 0 ≤ m) (w : World) :
    Calls Tryd.prog 54 #[wv x, .int .i64 m] w fun e w' => e = .returned (wv (rot x m.toNat)) ∧ w = w' := by
  have := turn_any x m.toNat hm w
  rw [Int.toNat_of_nonneg h0] at this
  exact this
theorem turn_q (x : UInt32) (m : Int) (hm : m.toNat ∈ Turns) (h0 : 0 ≤ m) : Reads Tryd.prog 54 #[wv x, .int .i64 m] (wv (rot x m.toNat)) := fun w => by
  have := turn_any x m.toNat hm w
  rw [Int.toNat_of_nonneg h0] at this
  exact this.mono fun _ _ ⟨a, b⟩ => ⟨a, 0, b.symm⟩
theorem refTurn_q (x : UInt32) (m : Int) (hm : m.toNat ∈ Turns) (h0 : 0 ≤ m) : Reads Tryd.prog 34 #[wv x, .int .i64 m] (wv (rot x m.toNat)) := fun w => by
  have := refTurn_any x m.toNat hm w
  rw [Int.toNat_of_nonneg h0] at this
  exact this

end Go.Proofs.YtkjnimcapjjfdaaDoor
