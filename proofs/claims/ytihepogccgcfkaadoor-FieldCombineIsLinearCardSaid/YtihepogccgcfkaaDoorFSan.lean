/-
  The examples that every statement of layer 5 plays first: sanity; the field's functions in one form.
-/
import Derived.Test.YtihepogccgcfkaaDoorFldX
namespace Go.Proofs.YtihepogccgcfkaaDoor
open Go.RowKit Go.Shelf
set_option linter.unusedVariables false

section
variable {w W : World} (hT : Tabs w) (hW : Below w.heap.size w W)
include hT hW
theorem valid_b (m a : Int) : Calls Tryd.prog 20 #[.int .i64 m, .int .i64 a] W fun e w' => e = .returned (.bool (vd m a)) ∧ W = w' := valid_any m a W (hT.keep hW)
theorem add_b (m a b : Int) : Calls Tryd.prog 10 #[.int .i64 m, .int .i64 a, .int .i64 b] W fun e w' => e = .returned (.tuple #[.int .i64 ((addR m a b).1 : Int), .int .i64 (addR m a b).2]) ∧ Below w.heap.size w w' := by
  refine (show Calls Tryd.prog 10 #[.int .i64 m, .int .i64 a, .int .i64 b] W _ from add_any m a b W (hT.keep hW) 0).mono ?_
  rintro e w' ⟨rfl, k, rfl⟩
  exact ⟨rfl, below_drewN hW k⟩
theorem mul_b (m a b : Int) : Calls Tryd.prog 12 #[.int .i64 m, .int .i64 a, .int .i64 b] W fun e w' => e = .returned (.tuple #[.int .i64 ((mlR m a b).1 : Int), .int .i64 (mlR m a b).2]) ∧ Below w.heap.size w w' := by
  refine (show Calls Tryd.prog 12 #[.int .i64 m, .int .i64 a, .int .i64 b] W _ from mul_any m a b W (hT.keep hW) 0).mono ?_
  rintro e w' ⟨rfl, k, rfl⟩
  exact ⟨rfl, below_drewN hW k⟩
theorem inv_b (m a : Int) : Calls Tryd.prog 14 #[.int .i64 m, .int .i64 a] W fun e w' => e = .returned (.tuple #[.int .i64 ((invR m a).1 : Int), .int .i64 (invR m a).2]) ∧ Below w.heap.size w w' := by
  refine (show Calls Tryd.prog 14 #[.int .i64 m, .int .i64 a] W _ from inv_any m a W (hT.keep hW) 0).mono ?_
  rintro e w' ⟨rfl, k, rfl⟩
  exact ⟨rfl, below_drewN hW k⟩
theorem div_b (m a b : Int) : Calls Tryd.prog 16 #[.int .i64 m, .int .i64 a, .int .i64 b] W fun e w' => e = .returned (.tuple #[.int .i64 ((divR m a b).1 : Int), .int .i64 (divR m a b).2]) ∧ Below w.heap.size w w' := by
  refine (show Calls Tryd.prog 16 #[.int .i64 m, .int .i64 a, .int .i64 b] W _ from div_any m a b W (hT.keep hW) 0).mono ?_
  rintro e w' ⟨rfl, k, rfl⟩
  exact ⟨rfl, below_drewN hW k⟩
theorem pow_b (m a x : Int) (h64 : -9223372036854775808 ≤ x ∧ x ≤ 9223372036854775807) : Calls Tryd.prog 18 #[.int .i64 m, .int .i64 a, .int .i64 x] W fun e w' => e = .returned (.tuple #[.int .i64 ((powR m a x).1 : Int), .int .i64 (powR m a x).2]) ∧ Below w.heap.size w w' := by
  refine (show Calls Tryd.prog 18 #[.int .i64 m, .int .i64 a, .int .i64 x] W _ from pow_any m a x h64 W (hT.keep hW) 0).mono ?_
  rintro e w' ⟨rfl, k, rfl⟩
  exact ⟨rfl, below_drewN hW k⟩
theorem log_b (m a : Int) : Calls Tryd.prog 28 #[.int .i64 m, .int .i64 a] W fun e w' => e = .returned (.tuple #[.int .i64 ((logR m a).1 : Int), .int .i64 (logR m a).2]) ∧ Below w.heap.size w w' := by
  refine (show Calls Tryd.prog 28 #[.int .i64 m, .int .i64 a] W _ from log_any m a W (hT.keep hW) 0).mono ?_
  rintro e w' ⟨rfl, k, rfl⟩
  exact ⟨rfl, below_drewN hW k⟩
theorem scale_b (m c : Int) (l : List UInt8) (hl : l.length ≤ 100000) : Calls Tryd.prog 24 #[.int .i64 m, .int .i64 c, .string (str l)] W fun e w' => e = .returned (.tuple #[.string (str (scR m c l)), .int .i64 (scE m c l)]) ∧ Below w.heap.size w w' := by
  refine (scale_any m c l hl W (hT.keep hW)).mono ?_
  rintro e w' ⟨rfl, hb⟩
  exact ⟨rfl, hW.trans (hb.mono hW.size)⟩
omit hT in
theorem xor_b (a b : List UInt8) (hl : a.length ≤ 100000) : Calls Tryd.prog 26 #[.string (str a), .string (str b)] W fun e w' => e = .returned (.tuple #[.string (str (xrS a b)), .int .i64 (xrE a b)]) ∧ Below w.heap.size w w' := by
  refine (xor_any a b hl W).mono ?_
  rintro e w' ⟨rfl, hb⟩
  exact ⟨rfl, hW.trans (hb.mono hW.size)⟩
end

set_option maxHeartbeats 400000 in
theorem sanity_any (w : World) (hT : Tabs w) : Calls Tryd.prog 9 #[] w fun e w' => e = .returned (.bool true) ∧ Below w.heap.size w w' := by
  have HM1 : Hid (∀ W, Below w.heap.size w W → Calls Tryd.prog 12 #[.int .i64 8, .int .i64 2, .int .i64 128] W fun e w' => e = .returned (.tuple #[.int .i64 29, .int .i64 0]) ∧ Below w.heap.size w w') := fun W hW => by
    have h := mul_b hT hW 8 2 128
    rw [show mlR 8 2 128 = (29, 0) by decide +kernel] at h
    exact h
  have HM2 : Hid (∀ W, Below w.heap.size w W → Calls Tryd.prog 12 #[.int .i64 16, .int .i64 2, .int .i64 32768] W fun e w' => e = .returned (.tuple #[.int .i64 4107, .int .i64 0]) ∧ Below w.heap.size w w') := fun W hW => by
    have h := mul_b hT hW 16 2 32768
    rw [show mlR 16 2 32768 = (4107, 0) by decide +kernel] at h
    exact h
  have HI : Hid (∀ W, Below w.heap.size w W → Calls Tryd.prog 14 #[.int .i64 8, .int .i64 0] W fun e w' => e = .returned (.tuple #[.int .i64 0, .int .i64 12]) ∧ Below w.heap.size w w') := fun W hW => by
    have h := inv_b hT hW 8 0
    rw [show invR 8 0 = (0, 12) by decide +kernel] at h
    exact h
  have HS : Hid (∀ W, Below w.heap.size w W → Calls Tryd.prog 24 #[.int .i64 16, .int .i64 2, .string { data := #[128, 0] }] W fun e w' => e = .returned (.tuple #[.string { data := #[16, 11] }, .int .i64 0]) ∧ Below w.heap.size w w') := fun W hW => by
    have h := scale_b hT hW 16 2 [128, 0] (by decide)
    rw [show scR 16 2 [128, 0] = [16, 11] by decide +kernel, show scE 16 2 [128, 0] = 0 by decide +kernel] at h
    exact h
  have HV1 : Hid (∀ W, Below w.heap.size w W → Calls Tryd.prog 20 #[.int .i64 8, .int .i64 255] W fun e w' => e = .returned (.bool true) ∧ W = w') := fun W hW => by
    have h := valid_b hT hW 8 255
    rw [show vd 8 255 = true by decide] at h
    exact h
  have HV2 : Hid (∀ W, Below w.heap.size w W → Calls Tryd.prog 20 #[.int .i64 8, .int .i64 256] W fun e w' => e = .returned (.bool false) ∧ W = w') := fun W hW => by
    have h := valid_b hT hW 8 256
    rw [show vd 8 256 = false by decide] at h
    exact h
  clear hT
  go_enter Tryd.func9, Tryd.ntmps9
  go_wp2_with (first
    | (go_at_call 12; refine (HM1.out _ (Below.refl _ _)).mono ?_; rintro e w1 ⟨rfl, hb⟩; have B1 := hideIt hb; clear hb HM1)
    | (go_at_call 12; refine (HM2.out _ B1.out).mono ?_; rintro e w2 ⟨rfl, hb⟩; have B2 := hideIt hb; clear hb HM2)
    | (go_at_call 14; refine (HI.out _ B2.out).mono ?_; rintro e w3 ⟨rfl, hb⟩; have B3 := hideIt hb; clear hb HI)
    | (go_at_call 24; refine (HS.out _ B3.out).mono ?_; rintro e w4 ⟨rfl, hb⟩; have B4 := hideIt hb; clear hb HS)
    | (go_at_call 20; refine (HV1.out _ B4.out).mono ?_; rintro e w5 ⟨rfl, rfl⟩; clear HV1)
    | (go_at_call 20; refine (HV2.out _ B4.out).mono ?_; rintro e w6 ⟨rfl, rfl⟩; clear HV2))
  go_ret
  exact ⟨rfl, B4.out⟩

end Go.Proofs.YtihepogccgcfkaaDoor
