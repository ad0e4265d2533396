/-
  The walk of the law: For all digests, every length and index, and proofs of at most 70 elements, Verify and VerifyPrefix accept exactly what the specification accepts.
-/
import Derived.Test.YtefalanfkihcdaaDoorSan2
import Derived.Test.YtefalanfkihcdaaDoorRPair
import Derived.Test.YtefalanfkihcdaaDoorRVerify
import Derived.Test.YtefalanfkihcdaaDoorArgV
namespace Go.Proofs.YtefalanfkihcdaaDoor.digestVerifyMatchesSpec
open Go.RowKit
set_option linter.unusedVariables false

set_option maxHeartbeats 3000000 in
set_option maxRecDepth 100000 in
theorem walk (o0 r0 : List UInt8) (n0 j0 : Int) (A0 : Option Addr) (c0 : Nat) (l0 : List (List UInt8)) (w : World) (wo0 : o0.length = 16) (wr0 : r0.length = 16) (wn0 : -9223372036854775808 ≤ n0 ∧ n0 ≤ 9223372036854775807) (wj0 : -9223372036854775808 ≤ j0 ∧ j0 ≤ 9223372036854775807) (x0 : Ds w w.heap.size A0 l0.length l0) (m0 : l0.length ≤ c0) (k0 : c0 ≤ maxLen) (T0 : Tab w 0) (T1 : Tab w 1) :
    Calls Tryd.prog 6 #[vinV o0 r0 n0 j0 (.slice A0 l0.length c0)] w fun e w' => e = .returned (.bool true) ∧ Below w.heap.size w w' := by
  have HS := hideIt (fun (W : World) (hb : Below w.heap.size w W) => sanity_any W (T1.keep hb))
  have HB0 := hideIt (below_new w (.cells (vinC o0 r0 n0 j0 (.slice A0 l0.length c0)).toArray 42))
  have HX0 := hideIt (Blk.new w 42 (vinC o0 r0 n0 j0 (.slice A0 l0.length c0)))
  have WO := hideIt wo0
  have WR := hideIt wr0
  by_cases hbig : 70 < l0.length
  · have ht : decide ((70 : Int) < (l0.length : Int)) = true := by simp; omega
    clear x0 T0 T1 wn0 wj0 wo0 wr0 hbig
    go_enter Tryd.func6, Tryd.ntmps6
    go_wp2_with (go_at_call 10; refine (HS.out _ HB0.out).mono ?_; rintro e wa ⟨rfl, hb⟩; have HB1 := hideIt (HB0.out.trans (hb.mono HB0.out.size)); have HX1 := hideIt (HX0.out.kept hb HX0.out.lt); have e32 := vin_n WO.out WR.out HX1.out; have e33 := vin_j WO.out WR.out HX1.out; have e34 := vin_s WO.out WR.out HX1.out; clear hb)
    go_ret
    exact ⟨rfl, HB1.out⟩
  · have ht : decide ((70 : Int) < (l0.length : Int)) = false := by simp; omega
    have h70 : l0.length ≤ 70 := by omega
    have HV1 := hideIt (fun (W : World) (hb : Below w.heap.size w W) => verify_any r0 o0 wr0 wo0 n0 j0 wn0.2 A0 l0.length c0 l0 W ((x0.below hb (Nat.le_refl _)).wide hb.size) (T1.keep hb) (by omega))
    have HV2 := hideIt (fun (W : World) (hb : Below w.heap.size w W) => rver_any r0 o0 wr0 wo0 n0 j0 wn0.2 A0 c0 l0 W ((x0.below hb (Nat.le_refl _)).wide hb.size) m0 (by omega) (T0.keep hb))
    have HP1 := hideIt (fun (W : World) (hb : Below w.heap.size w W) => vp_any o0 r0 wo0 wr0 j0 n0 wn0.2 A0 c0 l0 W ((x0.below hb (Nat.le_refl _)).wide hb.size) m0 (by omega) (T1.keep hb))
    have HP2 := hideIt (fun (W : World) (hb : Below w.heap.size w W) => rvp_any o0 r0 wo0 wr0 j0 n0 wn0.2 A0 c0 l0 W ((x0.below hb (Nat.le_refl _)).wide hb.size) m0 (by omega) (T0.keep hb))
    generalize verB r0 n0 j0 o0 l0 = b1 at *
    generalize vpB false o0 r0 j0 n0 l0 = b2 at *
    clear x0 T0 T1 wn0 wj0 wo0 wr0 hbig
    go_enter Tryd.func6, Tryd.ntmps6
    go_wp2_with (first
      | (go_at_call 10; refine (HS.out _ HB0.out).mono ?_; rintro e wa ⟨rfl, hb⟩; have HB1 := hideIt (HB0.out.trans (hb.mono HB0.out.size)); have HX1 := hideIt (HX0.out.kept hb HX0.out.lt); have e32 := vin_n WO.out WR.out HX1.out; have e33 := vin_j WO.out WR.out HX1.out; have e34 := vin_s WO.out WR.out HX1.out; clear hb HS HB0 HX0 )
      | ((with_reducible refine at_load ?_); refine wpList_load_mid rfl 30 (.tmp 14) rfl w.heap.size _ rfl (r0.map bv) (.array 16 5) (vin_r WO.out HX1.out) (by kernel_rfl) rfl (isize16 _ WR.out) ?_)
      | ((with_reducible refine at_load ?_); refine wpList_load_mid rfl 30 (.tmp 20) rfl w.heap.size _ rfl (o0.map bv) (.array 16 5) (vin_o HX1.out) (by kernel_rfl) rfl (isize16 _ WO.out) ?_)
      | (go_at_call 22; refine (HV1.out _ HB1.out).mono ?_; rintro e wb ⟨rfl, hb⟩; clear e32 e33 e34; have HB2 := hideIt (HB1.out.trans (hb.mono HB1.out.size)); have HX2 := hideIt (HX1.out.kept hb HX1.out.lt); have e32 := vin_n WO.out WR.out HX2.out; have e33 := vin_j WO.out WR.out HX2.out; have e34 := vin_s WO.out WR.out HX2.out; clear hb HV1 HB1 HX1)
      | ((with_reducible refine at_load ?_); refine wpList_load_mid rfl 30 (.tmp 25) rfl w.heap.size _ rfl (r0.map bv) (.array 16 5) (vin_r WO.out HX2.out) (by kernel_rfl) rfl (isize16 _ WR.out) ?_)
      | ((with_reducible refine at_load ?_); refine wpList_load_mid rfl 30 (.tmp 31) rfl w.heap.size _ rfl (o0.map bv) (.array 16 5) (vin_o HX2.out) (by kernel_rfl) rfl (isize16 _ WO.out) ?_)
      | (go_at_call 23; refine (HV2.out _ HB2.out).mono ?_; rintro e wc ⟨rfl, hb⟩; clear e32 e33 e34; have HB3 := hideIt (HB2.out.trans (hb.mono HB2.out.size)); have HX3 := hideIt (HX2.out.kept hb HX2.out.lt); have e32 := vin_n WO.out WR.out HX3.out; have e33 := vin_j WO.out WR.out HX3.out; have e34 := vin_s WO.out WR.out HX3.out; clear hb HV2 HB2 HX2)
      | ((with_reducible refine at_load ?_); refine wpList_load_mid rfl 30 (.tmp 36) rfl w.heap.size _ rfl (o0.map bv) (.array 16 5) (vin_o HX3.out) (by kernel_rfl) rfl (isize16 _ WO.out) ?_)
      | ((with_reducible refine at_load ?_); refine wpList_load_mid rfl 30 (.tmp 38) rfl w.heap.size _ rfl (r0.map bv) (.array 16 5) (vin_r WO.out HX3.out) (by kernel_rfl) rfl (isize16 _ WR.out) ?_)
      | (go_at_call 24; refine (HP1.out _ HB3.out).mono ?_; rintro e wd ⟨rfl, hb⟩; clear e32 e33 e34; have HB4 := hideIt (HB3.out.trans (hb.mono HB3.out.size)); have HX4 := hideIt (HX3.out.kept hb HX3.out.lt); have e32 := vin_n WO.out WR.out HX4.out; have e33 := vin_j WO.out WR.out HX4.out; have e34 := vin_s WO.out WR.out HX4.out; clear hb HP1 HB3 HX3)
      | ((with_reducible refine at_load ?_); refine wpList_load_mid rfl 30 (.tmp 47) rfl w.heap.size _ rfl (o0.map bv) (.array 16 5) (vin_o HX4.out) (by kernel_rfl) rfl (isize16 _ WO.out) ?_)
      | ((with_reducible refine at_load ?_); refine wpList_load_mid rfl 30 (.tmp 49) rfl w.heap.size _ rfl (r0.map bv) (.array 16 5) (vin_r WO.out HX4.out) (by kernel_rfl) rfl (isize16 _ WR.out) ?_)
      | (go_at_call 25; refine (HP2.out _ HB4.out).mono ?_; rintro e we ⟨rfl, hb⟩; clear e32 e33 e34; have HB5 := hideIt (HB4.out.trans (hb.mono HB4.out.size)); have HX5 := hideIt (HX4.out.kept hb HX4.out.lt); have e32 := vin_n WO.out WR.out HX5.out; have e33 := vin_j WO.out WR.out HX5.out; have e34 := vin_s WO.out WR.out HX5.out; clear hb HP2 HB4 HX4))
    go_ret
    exact ⟨rfl, HB5.out⟩

end Go.Proofs.YtefalanfkihcdaaDoor.digestVerifyMatchesSpec
