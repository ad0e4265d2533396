/-
  bits.Len64 by its contract, and how many bytes a number takes.
-/
import Derived.Shelf.Strconv.Itoa0
import Derived.Test.YtefalanfkihcdaaDoorRows
import Derived.Test.YtefalanfkihcdaaDoorEnc
import Derived.WalkKit
namespace Go.Proofs.YtefalanfkihcdaaDoor
open Go.Shelf
set_option linter.unusedVariables false

def lenRen : Go.Shelf.Ren := ⟨fun | 129 => 66 | n => n, fun | 53 => 88 | 3 => 3 | 4 => 4 | 46 => 64 | 5 => 5 | 9 => 9 | n => n, fun | n => n⟩
theorem lenLays : Go.Proofs.Lays.n129 Tryd.prog lenRen := {
  mixed := by kernel_rfl
  f129 := Tryd.func66.trans (congrArg some (by kernel_rfl))
  t3 := Tryd.underlying3
  a3 := Tryd.isAgg3
  z3 := Tryd.sizeOf3
  v3 := Tryd.zeroValue3
  t4 := Tryd.underlying4
  a4 := Tryd.isAgg4
  z4 := Tryd.sizeOf4
  v4 := Tryd.zeroValue4
  t5 := Tryd.underlying5
  a5 := Tryd.isAgg5
  z5 := Tryd.sizeOf5
  v5 := Tryd.zeroValue5
  t9 := Tryd.underlying9
  a9 := Tryd.isAgg9
  z9 := Tryd.sizeOf9
  v9 := Tryd.zeroValue9
  t46 := Tryd.underlying64
  a46 := Tryd.isAgg64
  z46 := Tryd.sizeOf64
  v46 := Tryd.zeroValue64
  t53 := Tryd.underlying88
  a53 := Tryd.isAgg88
  z53 := Tryd.sizeOf88
  v53 := Tryd.zeroValue88 }

theorem bytes_bits : ∀ m : Nat, m < 18446744073709551616 → (Lib.bitLen m + 7) / 8 = (be m).length := by
  intro m
  induction m using Nat.strongRecOn with
  | ind m ih =>
    intro h
    by_cases h0 : m = 0
    · subst h0; rw [be_zero]; decide +kernel
    · rw [be_step m h0 (Nat.lt_trans h (by decide)), List.length_append, List.length_singleton]
      by_cases h1 : 256 ≤ m
      · rw [Lib.bitLen_shift8 m h1 h, ← ih (m / 256) (by omega) (by omega)]
        omega
      · have hz : m / 256 = 0 := by omega
        rw [hz, be_zero]
        have h2 : Lib.bitLen m ≤ 8 := Lib.bitLen_le m 8 (by omega) (by omega)
        have h3 := Lib.bitLen_half m h0 (by omega)
        simp only [List.length_nil]
        omega

theorem len64_any (m : Nat) (h : m < 18446744073709551616) (w : World) :
    Calls Tryd.prog 66 #[.int .u64 (m : Int)] w fun e w' => ∃ q : Nat, e = .returned (.int .i64 (q : Int)) ∧ q ≤ 64 ∧ (q + 7) / 8 = (be m).length ∧ w = w' := by
  refine (Any.bits_Len64 lenLays (m : Int) w (by omega) (by omega)).mono ?_
  rintro e w' ⟨rfl, rfl⟩
  exact ⟨_, rfl, by rw [Int.toNat_natCast]; exact Lib.bitLen_le m 64 (Nat.le_refl _) h, by rw [Int.toNat_natCast]; exact bytes_bits m h, rfl⟩

theorem xor_255 (d : UInt8) : d.toNat ^^^ 255 = (255 - d).toNat := by
  have h : ∀ x : Fin 256, x.val ^^^ 255 = 255 - x.val := by decide +kernel
  have h1 := h ⟨d.toNat, d.toNat_lt⟩
  rw [UInt8.toNat_sub_of_le _ _ (by rw [UInt8.le_iff_toNat_le]; have := d.toNat_lt; simp; omega)]
  simpa using h1
theorem wrap_u64 (n : Nat) (h : n < 18446744073709551616) : IntKind.u64.wrap (n : Int) = n := by
  simp [IntKind.wrap, IntKind.signed, IntKind.bits]; omega
theorem or_256 (q e : Nat) (he : e < 256) : q * 256 ||| e = q * 256 + e := by
  have := Nat.shiftLeft_add_eq_or_of_lt (i := 8) (b := e) he q
  rw [Nat.shiftLeft_eq] at this
  exact this.symm
theorem or_byte (q e : Nat) (hq : q < 72057594037927936) (he : e < 256) : bits .or .u64 ((q : Int) * 256) (IntKind.u64.wrap (e : Int)) = ((q * 256 + e : Nat) : Int) := by
  have e1 : ((q : Int) * 256) = ((q * 256 : Nat) : Int) := by omega
  rw [e1, wrap_u64 _ (by omega), u64_or_nat _ _ (by omega) (by omega), or_256 _ _ he]
theorem or_flip (q : Nat) (d : UInt8) (hq : q < 72057594037927936) :
    bits .or .u64 ((q : Int) * 256) (IntKind.u64.wrap (bits .xor .u8 (d.toNat : Int) 255)) = ((q * 256 + (255 - d).toNat : Nat) : Int) := by
  have e1 : bits .xor .u8 (d.toNat : Int) 255 = ((d.toNat ^^^ 255 : Nat) : Int) := u8_xor_nat d.toNat 255 d.toNat_lt (by omega)
  rw [e1, xor_255, or_byte q _ hq (UInt8.toNat_lt _)]
theorem or_plain (q : Nat) (d : UInt8) (hq : q < 72057594037927936) :
    bits .or .u64 ((q : Int) * 256) (IntKind.u64.wrap (bits .xor .u8 (d.toNat : Int) 0)) = ((q * 256 + d.toNat : Nat) : Int) := by
  have e1 : bits .xor .u8 (d.toNat : Int) 0 = ((d.toNat ^^^ 0 : Nat) : Int) := u8_xor_nat d.toNat 0 d.toNat_lt (by omega)
  rw [e1, Nat.xor_zero, or_byte q _ hq d.toNat_lt]

end Go.Proofs.YtefalanfkihcdaaDoor
