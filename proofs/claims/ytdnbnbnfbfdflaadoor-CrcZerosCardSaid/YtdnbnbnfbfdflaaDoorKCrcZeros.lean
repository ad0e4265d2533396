/-
  The walk of the law: For every register value and every two numbers of zero bytes below 2^30, feeding zero bytes in two portions gives the same checksum as feeding them at once, and feeding none changes nothing; otherwise the examples hold.
-/
import Derived.Test.YtdnbnbnfbfdflaaDoorCrcS
namespace Go.Proofs.YtdnbnbnfbfdflaaDoor.crcZeros
open Go.RowKit
set_option linter.unusedVariables false
attribute [local go_sem] eqGuard_wv binOp_add_wv binOp_and_wv binOp_or_wv binOp_xor_wv binOp_shr_wv binOp_shl_wv unary_xor_wv run_convert_wv run_store_wv run_storeCells_wv run_convert_bw

theorem zro_zero (c : UInt32) : zro c 0 = c := by
  show ~~~ (~~~ c) = c
  rw [not_is, not_is, xor_assoc, xor_self, xor_zero]
theorem zro_add (c : UInt32) (m n : Nat) : zro (zro c m) n = zro c (m + n) := by
  unfold zro zers
  rw [itr_add]
  congr 2
  rw [not_is, not_is, xor_assoc, xor_self, xor_zero]
theorem eq_self_c (t : TypeId) (x : UInt32) : binOp .eql t (wv x) (wv x) = pure (.bool true) := by
  unfold wv
  rw [binOp_eql]
  simp
attribute [local go_sem] eq_self_c

set_option maxHeartbeats 1000000 in
set_option maxRecDepth 100000 in
theorem walk (a0 : UInt32) (a1 : Int) (a2 : Int) (w : World) (w1 : -9223372036854775808 ≤ a1 ∧ a1 ≤ 9223372036854775807) (w2 : -9223372036854775808 ≤ a2 ∧ a2 ≤ 9223372036854775807) (T1 : Tabs w) :
    Calls Tryd.prog 6 #[wv a0, .int .i64 a1, .int .i64 a2] w fun e w' => e = .returned (.bool true) ∧ Below w.heap.size w w' := by
  have HS := hideIt (sanity_any w T1)
  have HT := hideIt T1
  have W1 := hideIt w1
  have W2 := hideIt w2
  have hgood : (0 ≤ a1 ∧ a1 < 1073741824) ∧ (0 ≤ a2 ∧ a2 < 1073741824) → Calls Tryd.prog 6 #[wv a0, .int .i64 a1, .int .i64 a2] w fun e w' => e = .returned (.bool true) ∧ Below w.heap.size w w' := by
    rintro ⟨⟨p1, p2⟩, q1, q2⟩
    obtain ⟨z, hz⟩ : ∃ z, z = zro a0 (a1.toNat + a2.toNat) := ⟨_, rfl⟩
    obtain ⟨y, hy⟩ : ∃ y, y = zro a0 a1.toNat := ⟨_, rfl⟩
    have HY := hideIt hy
    have H2 : Hid (zro y a2.toNat = z) := by rw [hy, zro_add, hz]; exact rfl
    have H3 : Hid (zro a0 (a1 + a2).toNat = z) := by rw [hz, show (a1 + a2).toNat = a1.toNat + a2.toNat by omega]; exact rfl
    have hw : IntKind.i64.wrap (a1 + a2) = a1 + a2 := IntWalk.i64_in _ (by omega)
    have n1 : ¬ a1 < 0 := by omega
    have n2 : ¬ a2 < 0 := by omega
    have n3 : ¬ 1073741824 ≤ a1 := by omega
    have n4 : ¬ 1073741824 ≤ a2 := by omega
    have b3 : -9223372036854775808 ≤ a1 + a2 ∧ a1 + a2 ≤ 9223372036854775807 := by omega
    have B3 := hideIt b3
    clear T1 w1 w2 hz hy b3
    go_enter Tryd.func6, Tryd.ntmps6
    go_wp2_with fail
    refine HS.out.mono ?_
    rintro e w1 ⟨rfl, hb⟩
    have HB1 := hideIt hb
    clear hb
    go_wp2_with fail
    refine (zeros_any a0 a1 W1.out w1 (HT.out.keep HB1.out)).mono ?_
    rintro e w2 ⟨rfl, hb⟩
    rw [← HY.out]
    have HB2 := hideIt (HB1.out.trans (hb.mono HB1.out.size))
    clear hb
    go_wp2_with fail
    refine (zeros_any y a2 W2.out w2 (HT.out.keep HB2.out)).mono ?_
    rintro e w3 ⟨rfl, hb⟩
    rw [H2.out]
    have HB3 := hideIt (HB2.out.trans (hb.mono HB2.out.size))
    clear hb
    go_wp2_with fail
    refine (zeros_any a0 (a1 + a2) B3.out w3 (HT.out.keep HB3.out)).mono ?_
    rintro e w4 ⟨rfl, hb⟩
    rw [H3.out]
    have HB4 := hideIt (HB3.out.trans (hb.mono HB3.out.size))
    clear hb
    go_wp2_with fail
    refine (zeros_any a0 0 (by omega) w4 (HT.out.keep HB4.out)).mono ?_
    rintro e w5 ⟨rfl, hb⟩
    rw [show (0 : Int).toNat = 0 from rfl, zro_zero]
    have HB5 := hideIt (HB4.out.trans (hb.mono HB4.out.size))
    clear hb
    go_wp2_with fail
    go_ret
    exact ⟨rfl, HB5.out⟩
  by_cases h0 : a1 < 0
  · clear T1 hgood
    go_enter Tryd.func6, Tryd.ntmps6
    go_wp2_with (go_at_call 10; refine HS.out.mono ?_; rintro e w' ⟨rfl, hb⟩; have HB := hideIt hb; clear hb)
    go_ret
    exact ⟨rfl, HB.out⟩
  by_cases h1 : a2 < 0
  · clear T1 hgood
    go_enter Tryd.func6, Tryd.ntmps6
    go_wp2_with (go_at_call 10; refine HS.out.mono ?_; rintro e w' ⟨rfl, hb⟩; have HB := hideIt hb; clear hb)
    go_ret
    exact ⟨rfl, HB.out⟩
  by_cases h2 : 1073741824 ≤ a1
  · clear T1 hgood
    go_enter Tryd.func6, Tryd.ntmps6
    go_wp2_with (go_at_call 10; refine HS.out.mono ?_; rintro e w' ⟨rfl, hb⟩; have HB := hideIt hb; clear hb)
    go_ret
    exact ⟨rfl, HB.out⟩
  by_cases h3 : 1073741824 ≤ a2
  · clear T1 hgood
    go_enter Tryd.func6, Tryd.ntmps6
    go_wp2_with (go_at_call 10; refine HS.out.mono ?_; rintro e w' ⟨rfl, hb⟩; have HB := hideIt hb; clear hb)
    go_ret
    exact ⟨rfl, HB.out⟩
  exact hgood ⟨⟨by omega, by omega⟩, by omega, by omega⟩

end Go.Proofs.YtdnbnbnfbfdflaaDoor.crcZeros
