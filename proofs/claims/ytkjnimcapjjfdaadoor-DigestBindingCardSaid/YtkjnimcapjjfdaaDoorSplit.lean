/-
  The length of the first part of a list, walked: digest.split, the reference's Split.
-/
import Derived.Test.YtkjnimcapjjfdaaDoorEnc
import Derived.Test.YtkjnimcapjjfdaaDoorLib
import Derived.Deep.LoopGhost
namespace Go.Proofs.YtkjnimcapjjfdaaDoor
open Go.RowKit
set_option linter.unusedVariables false

/-- The greatest power of 2 that is less than n (n at least 2). -/
def splitK (n : Nat) : Nat := 2 ^ Nat.log2 (n - 1)
theorem splitK_spec (n : Nat) (h : 2 ≤ n) : 1 ≤ splitK n ∧ splitK n < n ∧ n ≤ 2 * splitK n := by
  unfold splitK
  have h1 := Nat.log2_self_le (n := n - 1) (by omega)
  have h2 := Nat.lt_log2_self (n := n - 1)
  rw [Nat.pow_succ] at h2
  have h3 : 0 < 2 ^ (n - 1).log2 := Nat.pow_pos (by omega)
  omega
theorem splitK_uniq (n e : Nat) (h1 : 2 ^ e < n) (h2 : n ≤ 2 * 2 ^ e) : 2 ^ e = splitK n := by
  unfold splitK
  congr 1
  have hp : 0 < 2 ^ e := Nat.pow_pos (by omega)
  exact ((Nat.log2_eq_iff (by omega)).2 ⟨by omega, by rw [Nat.pow_succ]; omega⟩).symm
theorem bitLen_log (m : Nat) : 0 < m → m < 2 ^ 64 → Lib.bitLen m = Nat.log2 m + 1 := by
  induction m using Nat.strongRecOn with
  | ind m ih =>
    intro h0 h
    rw [Lib.bitLen_half m (by omega) h]
    by_cases h1 : 2 ≤ m
    · rw [ih (m / 2) (by omega) (by omega) (by omega), Nat.log2_def m, if_pos h1]
      omega
    · obtain rfl : m = 1 := by omega
      decide +kernel

theorem len_any (m : Nat) (h0 : 0 < m) (h : m < 18446744073709551616) (w : World) :
    Calls Tryd.prog 57 #[.int .u64 (m : Int)] w fun e w' => e = .returned (.int .i64 ((Nat.log2 m + 1 : Nat) : Int)) ∧ w = w' := by
  have HL : Hid (∀ W, Calls Tryd.prog 66 #[.int .u64 (m : Int)] W fun e w' => e = .returned (.int .i64 ((Nat.log2 m + 1 : Nat) : Int)) ∧ W = w') := fun W => by
    refine (Any.bits_Len64 lenLays (m : Int) W (by omega) (by omega)).mono ?_
    rintro e w' ⟨rfl, rfl⟩
    exact ⟨by rw [Int.toNat_natCast, bitLen_log m h0 (by omega)], rfl⟩
  clear h
  go_enter Tryd.func57, Tryd.ntmps57
  go_wp2_with (go_at_call 66; refine (HL.out _).mono ?_; rintro e w' ⟨rfl, rfl⟩)
  go_ret
  exact ⟨rfl, rfl⟩

set_option maxHeartbeats 400000 in
theorem split_any (n : Nat) (h2 : 2 ≤ n) (hn : n ≤ 9223372036854775807) (w : World) :
    Calls Tryd.prog 44 #[.int .i64 (n : Int)] w fun e w' => e = .returned (.int .i64 (splitK n : Int)) ∧ w = w' := by
  obtain ⟨m, hm⟩ : ∃ m, m = n - 1 := ⟨_, rfl⟩
  obtain ⟨q, hq⟩ : ∃ q, q = Nat.log2 m := ⟨_, rfl⟩
  have hlog : q < 63 := by
    rw [hq]
    exact (Nat.log2_lt (by omega)).2 (by omega)
  have hw : IntKind.u64.wrap ((n : Int) - 1) = (m : Int) := by rw [IntWalk.u64_in _ (by omega)]; omega
  have hcv : ∀ W, (convert 3 64 (.int .i64 ((n : Int) - 1))).run Tryd.prog W = .ok (.int .u64 (m : Int)) W := fun W => by
    rw [run_convert_int (P := Tryd.prog) W 3 64 .i64 _ (by kernel_rfl) (by kernel_rfl), show Tryd.prog.intKind 64 = .u64 by kernel_rfl, hw]
  have hsh : binOp .shl 3 (.int .i64 1) (.int .i64 (q : Int)) = pure (.int .i64 ((splitK n : Nat) : Int)) := by
    rw [binOp_shl]
    simp only [Op.shift, if_neg (show ¬ ((q : Int) < 0) by omega)]
    congr 2
    have h1 : min ((q : Int)).toNat IntKind.i64.bits = q := by
      rw [Int.toNat_natCast]; simp [IntKind.bits]; omega
    obtain ⟨K, hK⟩ : ∃ K, K = splitK n := ⟨_, rfl⟩
    have h3 := splitK_spec n h2
    rw [← hK] at h3
    have h5 : ((2 : Int) ^ q) = (K : Int) := by rw [hK, show splitK n = 2 ^ q by unfold splitK; rw [hq, hm], Int.natCast_pow]; rfl
    rw [h1, h5, ← hK, Int.one_mul]
    exact IntWalk.i64_in _ (by omega)
  have HL : Hid (∀ W, Calls Tryd.prog 57 #[.int .u64 (m : Int)] W fun e w' => e = .returned (.int .i64 ((q + 1 : Nat) : Int)) ∧ W = w') := by
    rw [hq]; exact len_any m (by omega) (by omega)
  clear hq hm hw
  go_enter Tryd.func44, Tryd.ntmps44
  go_wp2_with (go_at_call 57; refine (HL.out _).mono ?_; rintro e w' ⟨rfl, rfl⟩)
  go_ret
  exact ⟨rfl, rfl⟩

set_option maxHeartbeats 400000 in
theorem refSplit_any (n : Nat) (h2 : 2 ≤ n) (hn : n ≤ 9223372036854775807) (w : World) :
    Calls Tryd.prog 40 #[.int .i64 (n : Int)] w fun e w' => e = .returned (.int .i64 (splitK n : Int)) ∧ w = w' := by
  go_enter Tryd.func40, Tryd.ntmps40
  go_wp2
  go_loopg [3] (n - 1) (fun g s3 wr => ∃ (k : Nat), g + k = n ∧ s3 = .int .i64 k ∧ k < n ∧ 1 ≤ k ∧ Hid (∃ e, k = 2 ^ e) ∧ Hid (wr = w))
  case atStart => exact ⟨1, by omega, rfl, by omega, by omega, ⟨0, rfl⟩, rfl⟩
  case round =>
    obtain ⟨k, hg, rfl, hk, hk1, HE, HW⟩ := hrel
    by_cases hkn : k < n - k
    · go_wp2
      go_roundg (n - 2 * k)
      case measure => omega
      case rel => exact ⟨2 * k, by omega, by go_num, by omega, by omega, by obtain ⟨e, he⟩ := HE.out; exact ⟨e + 1, by rw [Nat.pow_succ, he]; omega⟩, HW⟩
    · go_wp2
      go_ret
      obtain ⟨e, he⟩ := HE.out
      have := splitK_uniq n e (by omega) (by omega)
      exact ⟨ret_i (by rw [← this, ← he]), HW.out.symm⟩

end Go.Proofs.YtkjnimcapjjfdaaDoor
