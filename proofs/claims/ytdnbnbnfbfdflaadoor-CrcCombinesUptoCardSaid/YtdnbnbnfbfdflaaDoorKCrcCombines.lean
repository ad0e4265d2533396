/-
  The walk of the law: For every two strings, Combine of their checksums and the length of the second one is the checksum of their concatenation.
-/
import Derived.Test.YtdnbnbnfbfdflaaDoorCrcS
import Derived.Test.YtdnbnbnfbfdflaaDoorCrcQ
namespace Go.Proofs.YtdnbnbnfbfdflaaDoor.crcCombines
open Go.RowKit
set_option linter.unusedVariables false
attribute [local go_sem] eqGuard_wv binOp_add_wv binOp_and_wv binOp_or_wv binOp_xor_wv binOp_shr_wv binOp_shl_wv unary_xor_wv run_convert_wv run_store_wv run_storeCells_wv run_convert_bw

theorem eq_self_c (t : TypeId) (x : UInt32) : binOp .eql t (wv x) (wv x) = pure (.bool true) := by
  unfold wv
  rw [binOp_eql]
  simp
attribute [local go_sem] eq_self_c

set_option maxHeartbeats 1000000 in
set_option maxRecDepth 100000 in
theorem walk (A0 : Option Addr) (c0 : Nat) (l0 : List UInt8) (A1 : Option Addr) (c1 : Nat) (l1 : List UInt8) (w : World) (x0 : Sl w w.heap.size A0 1 l0.length (l0.map bv)) (m0 : l0.length ≤ c0) (k0 : c0 ≤ maxLen) (s0 : l0.length ≤ 1048576) (x1 : Sl w w.heap.size A1 1 l1.length (l1.map bv)) (m1 : l1.length ≤ c1) (k1 : c1 ≤ maxLen) (s1 : l1.length ≤ 1048576) (T1 : Tabs w) :
    Calls Tryd.prog 5 #[.slice A0 l0.length c0, .slice A1 l1.length c1] w fun e w' => e = .returned (.bool true) ∧ Below w.heap.size w w' := by
  have HT := hideIt T1
  have X0 := hideIt x0
  have X1 := hideIt x1
  obtain ⟨i0, hi, hz0, hz1, hz2⟩ := info_parts (show (Tryd.prog.info? 5).map (fun i => (i.zero, i.size, i.bytes)) = some (some (Value.int .u8 0), 1, 1) by kernel_rfl)
  have C1 := hideIt (fun (W : World) (hb : Below w.heap.size w W) => of_any A0 w.heap.size c0 l0 W (X0.out.below hb) (by omega) (HT.out.keep hb))
  have C2 := hideIt (fun (W : World) (hb : Below w.heap.size w W) => of_any A1 w.heap.size c1 l1 W (X1.out.below hb) (by omega) (HT.out.keep hb))
  have HC := hideIt (crc_app l0 l1)
  clear T1 x0 x1
  go_enter Tryd.func5, Tryd.ntmps5
  go_wp2_with (first
    | ((with_reducible refine at_append ?_); refine wpList_app rfl (.tmp 6) (.tmp 7) 22 rfl w.heap.size 5 i0 (.int .u8 0) 1 1 Tryd.underlying22 hi hz0 hz1 hz2 rfl (by decide) (.slice none 0 0) 0 [] rfl (World.ownsRow_nil _ _ _ _) _ _ l0.length _ (l0.map bv) rfl X0.out (bv_one _) (by unfold maxLen; omega) (by omega) (Nat.le_refl _) ?_; intro v1 w1 ho1 hb1; have HO1 := own_is (n' := l0.length) (xs' := l0.map bv) ho1 (Nat.zero_add _) rfl; clear ho1; obtain ⟨A2, c2, rfl, q1, q2⟩ := own_form HO1.out; have HB1 := hideIt hb1; clear hb1)
    | ((with_reducible refine at_append ?_); refine wpList_app rfl (.tmp 9) (.tmp 10) 22 rfl w.heap.size 5 i0 (.int .u8 0) 1 1 Tryd.underlying22 hi hz0 hz1 hz2 rfl (by decide) _ l0.length (l0.map bv) rfl HO1.out _ _ l1.length _ (l1.map bv) rfl (X1.out.below HB1.out) (bv_one _) (by unfold maxLen; omega) (by omega) HB1.out.size ?_; intro v2 w2 ho2 hb2; have HO2 := own_is (n' := (l0 ++ l1).length) (xs' := (l0 ++ l1).map bv) ho2 (by rw [List.length_append]) (by rw [List.map_append]); clear ho2; obtain ⟨A3, c3, rfl, q3, q4⟩ := own_form HO2.out; have HB2 := hideIt (HB1.out.trans hb2); clear hb2))
  have HX2 := hideIt (Sl.of_own HO2.out)
  have HS := hideIt (sanity_any w2 (HT.out.keep HB2.out))
  have C3 := hideIt (fun (W : World) (hb : Below w2.heap.size w2 W) => of_any A3 w2.heap.size c3 (l0 ++ l1) W (HX2.out.below hb) (by rw [List.length_append]; omega) ((HT.out.keep HB2.out).keep hb))
  have C4 := hideIt (fun (W : World) (hb : Below w.heap.size w W) => comb_any (crc l0) (crc l1) (l1.length : Int) (by omega) W (HT.out.keep hb))
  rw [Int.toNat_natCast, HC.out] at C4
  generalize crc l0 = z0 at *
  generalize crc l1 = z1 at *
  generalize crc (l0 ++ l1) = z2 at *
  rw [List.length_append] at C3
  clear hi hz0 hz1 hz2 q1 q2 q3 q4 HC
  go_wp2_with fail
  refine HS.out.mono ?_
  rintro e w3 ⟨rfl, hb⟩
  have HB23 := hideIt hb
  have HB3 := hideIt (HB2.out.trans (hb.mono HB2.out.size))
  clear hb
  go_wp2_with fail
  refine (C1.out _ HB3.out).mono ?_
  rintro e w' ⟨rfl, rfl⟩
  go_wp2_with fail
  refine (C2.out _ HB3.out).mono ?_
  rintro e w' ⟨rfl, rfl⟩
  go_wp2_with fail
  refine (C4.out _ HB3.out).mono ?_
  rintro e w4 ⟨rfl, hb⟩
  have HB4 := hideIt (HB3.out.trans (hb.mono HB3.out.size))
  have HB24 := hideIt (HB23.out.trans (hb.mono HB23.out.size))
  clear hb
  go_wp2_with fail
  refine (C3.out _ HB24.out).mono ?_
  rintro e w' ⟨rfl, rfl⟩
  go_wp2_with fail
  go_ret
  exact ⟨rfl, HB4.out⟩

end Go.Proofs.YtdnbnbnfbfdflaaDoor.crcCombines
