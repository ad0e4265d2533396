/-
  The walk of the law: For every string of at most 2000 bytes, every two register values and every number of zero bytes up to 2000, Of, Extend, Zeros and Combine return what the specification returns.
-/
import Derived.Test.YtdnbnbnfbfdflaaDoorCrcS
import Derived.Test.YtdnbnbnfbfdflaaDoorCrcR
namespace Go.Proofs.YtdnbnbnfbfdflaaDoor.crcMatchesSpec
open Go.RowKit
set_option linter.unusedVariables false
attribute [local go_sem] eqGuard_wv binOp_add_wv binOp_and_wv binOp_or_wv binOp_xor_wv binOp_shr_wv binOp_shl_wv unary_xor_wv run_convert_wv run_store_wv run_storeCells_wv run_convert_bw

theorem eq_self_c (t : TypeId) (x : UInt32) : binOp .eql t (wv x) (wv x) = pure (.bool true) := by
  unfold wv
  rw [binOp_eql]
  simp
attribute [local go_sem] eq_self_c

set_option maxHeartbeats 1000000 in
set_option maxRecDepth 100000 in
theorem walk (A0 : Option Addr) (c0 : Nat) (l0 : List UInt8) (a1 : UInt32) (a2 : UInt32) (a3 : Int) (w : World) (x0 : Sl w w.heap.size A0 1 l0.length (l0.map bv)) (m0 : l0.length ≤ c0) (k0 : c0 ≤ maxLen) (s0 : l0.length ≤ 140737488351232) (w3 : -9223372036854775808 ≤ a3 ∧ a3 ≤ 9223372036854775807) (T1 : Tabs w) :
    Calls Tryd.prog 3 #[.slice A0 l0.length c0, wv a1, wv a2, .int .i64 a3] w fun e w' => e = .returned (.bool true) ∧ Below w.heap.size w w' := by
  have HS := hideIt (sanity_any w T1)
  have HT := hideIt T1
  have X0 := hideIt x0
  have W3 := hideIt w3
  by_cases h0 : 2000 < l0.length
  · clear T1 x0
    go_enter Tryd.func3, Tryd.ntmps3
    go_wp2_with (go_at_call 10; refine HS.out.mono ?_; rintro e w' ⟨rfl, hb⟩; have HB := hideIt hb; clear hb)
    go_ret
    exact ⟨rfl, HB.out⟩
  by_cases h1 : 2000 < a3
  · clear T1 x0
    go_enter Tryd.func3, Tryd.ntmps3
    go_wp2_with (go_at_call 10; refine HS.out.mono ?_; rintro e w' ⟨rfl, hb⟩; have HB := hideIt hb; clear hb)
    go_ret
    exact ⟨rfl, HB.out⟩
  have hl : l0.length ≤ 2000 := by omega
  have hn : a3 ≤ 2000 := by omega
  have C1 := hideIt (fun (W : World) (hb : Below w.heap.size w W) => of_any A0 w.heap.size c0 l0 W (X0.out.below hb) (by omega) (HT.out.keep hb))
  have C2 := hideIt (fun (W : World) (hb : Below w.heap.size w W) => refOf_any A0 w.heap.size c0 l0 W (X0.out.below hb) (by omega))
  have C3 := hideIt (fun (W : World) (hb : Below w.heap.size w W) => extend_any A0 w.heap.size c0 a1 l0 W (X0.out.below hb) (by omega) (HT.out.keep hb))
  have C4 := hideIt (fun (W : World) (hb : Below w.heap.size w W) => refExtend_any A0 w.heap.size c0 a1 l0 W (X0.out.below hb) (by omega))
  have C5 := hideIt (fun (W : World) (hb : Below w.heap.size w W) => zeros_any a1 a3 W3.out W (HT.out.keep hb))
  have C6 := hideIt (fun (W : World) => refZeros_any a1 a3 hn W)
  have C7 := hideIt (fun (W : World) (hb : Below w.heap.size w W) => comb_any a1 a2 a3 W3.out W (HT.out.keep hb))
  have C8 := hideIt (fun (W : World) => refComb_any a1 a2 a3 hn W)
  generalize crc l0 = z1 at *
  generalize ext a1 l0 = z2 at *
  generalize zro a1 a3.toNat = z3 at *
  generalize cmb a1 a2 a3.toNat = z4 at *
  clear T1 x0 w3 hl hn
  go_enter Tryd.func3, Tryd.ntmps3
  go_wp2_with (first
    | (go_at_call 10; refine HS.out.mono ?_; rintro e w1 ⟨rfl, hb⟩; have HB1 := hideIt hb; clear hb)
    | (go_at_call 11; refine (C1.out _ HB1.out).mono ?_; rintro e w' ⟨rfl, rfl⟩)
    | (go_at_call 12; refine (C2.out _ HB1.out).mono ?_; rintro e w' ⟨rfl, rfl⟩)
    | (go_at_call 13; refine (C3.out _ HB1.out).mono ?_; rintro e w' ⟨rfl, rfl⟩)
    | (go_at_call 14; refine (C4.out _ HB1.out).mono ?_; rintro e w' ⟨rfl, rfl⟩)
    | (go_at_call 15; refine (C5.out _ HB1.out).mono ?_; rintro e w2 ⟨rfl, hb⟩; have HB2 := hideIt (HB1.out.trans (hb.mono HB1.out.size)); clear hb)
    | (go_at_call 16; refine (C6.out _).mono ?_; rintro e w3 ⟨rfl, hb⟩; have HB3 := hideIt (HB2.out.trans (hb.mono HB2.out.size)); clear hb)
    | (go_at_call 17; refine (C7.out _ HB3.out).mono ?_; rintro e w4 ⟨rfl, hb⟩; have HB4 := hideIt (HB3.out.trans (hb.mono HB3.out.size)); clear hb)
    | (go_at_call 18; refine (C8.out _).mono ?_; rintro e w5 ⟨rfl, hb⟩; have HB5 := hideIt (HB4.out.trans (hb.mono HB4.out.size)); clear hb))
  go_ret
  exact ⟨rfl, HB5.out⟩

end Go.Proofs.YtdnbnbnfbfdflaaDoor.crcMatchesSpec
