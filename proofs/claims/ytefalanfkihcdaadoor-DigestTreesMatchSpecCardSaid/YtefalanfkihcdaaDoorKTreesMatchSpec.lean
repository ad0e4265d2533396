/-
  The walk of the law: For every list of at most 64 digests and every integer, Root, Prove and ProvePrefix return what the specification defines.
-/
import Derived.Test.YtefalanfkihcdaaDoorSan2
import Derived.Test.YtefalanfkihcdaaDoorUn
import Derived.Test.YtefalanfkihcdaaDoorRSame
import Derived.Test.YtefalanfkihcdaaDoorQuiet
namespace Go.Proofs.YtefalanfkihcdaaDoor.digestTreesMatchSpec
open Go.RowKit
set_option linter.unusedVariables false

set_option maxHeartbeats 1000000 in
set_option maxRecDepth 100000 in
theorem walk (A0 : Option Addr) (c0 : Nat) (l0 : List (List UInt8)) (a1 : Int) (w : World) (x0 : Ds w w.heap.size A0 l0.length l0) (m0 : l0.length ≤ c0) (k0 : c0 ≤ maxLen) (s0 : l0.length ≤ 140737488351232) (w1 : -9223372036854775808 ≤ a1 ∧ a1 ≤ 9223372036854775807) (T0 : Tab w 0) (T1 : Tab w 1) :
    Calls Tryd.prog 5 #[.slice A0 l0.length c0, .int .i64 a1] w fun e w' => e = .returned (.bool true) ∧ Below w.heap.size w w' := by
  have HS := hideIt (sanity_any w T1)
  by_cases hbig : 64 < l0.length
  · clear x0 T0 T1
    go_enter Tryd.func5, Tryd.ntmps5
    go_wp2_with (go_at_call 10; refine HS.out.mono ?_; rintro e w' ⟨rfl, hb⟩; have HB := hideIt hb; clear hb)
    go_ret
    exact ⟨rfl, HB.out⟩
  · have HP1 := hideIt (fun (W : World) (hb : Below w.heap.size w W) => prove_un A0 w.heap.size l0.length c0 l0 W a1 (x0.below hb (Nat.le_refl _)) m0 (by omega) hb.size (T1.keep hb))
    have HP2 := hideIt (fun (W : World) (hb : Below w.heap.size w W) => refProve_un A0 w.heap.size l0.length c0 l0 W a1 (x0.below hb (Nat.le_refl _)) m0 (by omega) hb.size (T0.keep hb))
    have HQ1 := hideIt (fun (W : World) (hb : Below w.heap.size w W) => pp_un A0 w.heap.size l0.length c0 l0 W a1 (x0.below hb (Nat.le_refl _)) m0 (by omega) hb.size (T1.keep hb))
    have HQ2 := hideIt (fun (W : World) (hb : Below w.heap.size w W) => refPP_un A0 w.heap.size l0.length c0 l0 W a1 (x0.below hb (Nat.le_refl _)) m0 (by omega) hb.size (T0.keep hb))
    have HR1 := hideIt (fun (W : World) (hb : Below w.heap.size w W) => root_any l0.length l0 A0 w.heap.size l0.length c0 W (Nat.le_refl _) (by omega) (x0.below hb (Nat.le_refl _)) m0 hb.size (T1.keep hb))
    have HR2 := hideIt (fun (W : World) (hb : Below w.heap.size w W) => refRoot_any l0.length l0 A0 w.heap.size l0.length c0 W (Nat.le_refl _) (by omega) (x0.below hb (Nat.le_refl _)) m0 hb.size (T0.keep hb))
    obtain ⟨r, hr⟩ : ∃ r, r = rootD l0 := ⟨_, rfl⟩
    have hrl : r.length = 16 := by rw [hr]; exact rootD_len _
    have heq := equal_digest r r hrl hrl
    rw [decide_eq_true rfl] at heq
    rw [← hr] at HR1 HR2
    have h1 := prL_len l0 (by omega) a1
    have h2 := ppL_len l0 (by omega) a1
    have h3 := prL_16 l0 a1
    have h4 := ppL_16 l0 (by omega) a1
    generalize prL l0 a1 = P at *
    generalize prE l0 a1 = e1 at *
    generalize ppL l0 a1 = Q at *
    generalize ppE l0 a1 = e2 at *
    have H3 := hideIt h3
    have H4 := hideIt h4
    clear h3 h4 hr hrl x0 T0 T1
    go_enter Tryd.func5, Tryd.ntmps5
    go_wp2_with (first
      | (go_at_call 10; refine HS.out.mono ?_; rintro e w1 ⟨rfl, hb⟩; have HB1 := hideIt hb; clear hb)
      | (go_at_call 15; refine (HP1.out _ HB1.out).mono ?_; rintro e w2 ⟨v2, rfl, hown, hb⟩; obtain ⟨A2, c2, rfl, _, _⟩ := own_form hown; have HS2 := hideIt (Sl.of_own hown); have HB2 := hideIt (HB1.out.trans (hb.mono HB1.out.size)); clear hown hb)
      | (go_at_call 16; refine (HP2.out _ HB2.out).mono ?_; rintro e w3 ⟨v3, rfl, hown, hb⟩; obtain ⟨A3, c3, rfl, _, _⟩ := own_form hown; have HS3 := hideIt (Sl.of_own hown); have HB23 := hideIt hb; have HB3 := hideIt (HB2.out.trans (hb.mono HB2.out.size)); clear hown hb)
      | (go_at_call 17; refine (HQ1.out _ HB3.out).mono ?_; rintro e w4 ⟨v4, rfl, hown, hb⟩; obtain ⟨A4, c4, rfl, _, _⟩ := own_form hown; have HS4 := hideIt (Sl.of_own hown); have HB34 := hideIt hb; have HB4 := hideIt (HB3.out.trans (hb.mono HB3.out.size)); clear hown hb)
      | (go_at_call 18; refine (HQ2.out _ HB4.out).mono ?_; rintro e w5 ⟨v5, rfl, hown, hb⟩; obtain ⟨A5, c5, rfl, _, _⟩ := own_form hown; have HS5 := hideIt (Sl.of_own hown); have HB45 := hideIt hb; have HB5 := hideIt (HB4.out.trans (hb.mono HB4.out.size)); clear hown hb)
      | (go_at_call 19; refine (HR1.out _ HB5.out).mono ?_; rintro e w6 ⟨rfl, hb⟩; have HB56 := hideIt hb; have HB6 := hideIt (HB5.out.trans (hb.mono HB5.out.size)); clear hb)
      | (go_at_call 20; refine (HR2.out _ HB6.out).mono ?_; rintro e w7 ⟨rfl, hb⟩; have HB57 := hideIt (HB56.out.trans (hb.mono HB56.out.size)); have HB7 := hideIt (HB6.out.trans (hb.mono HB6.out.size)); clear hb))
    have HB47 := hideIt (HB45.out.trans (HB57.out.mono HB45.out.size))
    have HB37 := hideIt (HB34.out.trans (HB47.out.mono HB34.out.size))
    have HB27 := hideIt (HB23.out.trans (HB37.out.mono HB23.out.size))
    refine (refSame_any A2 A3 _ _ c2 c3 P P w7 (HS2.out.below HB27.out) (HS3.out.below HB37.out) H3.out H3.out (by omega) (by omega)).mono ?_
    rintro e w' ⟨rfl, n1, rfl⟩
    rw [decide_eq_true rfl]
    go_wp2_with fail
    refine (refSame_any A4 A5 _ _ c4 c5 Q Q (w7.drewN n1) (HS4.out.below (below_drewN HB47.out _)) (HS5.out.below (below_drewN HB57.out _)) H4.out H4.out (by omega) (by omega)).mono ?_
    rintro e w' ⟨rfl, n2, rfl⟩
    rw [decide_eq_true rfl]
    go_wp2
    go_ret
    exact ⟨rfl, below_drewN HB7.out _⟩

end Go.Proofs.YtefalanfkihcdaaDoor.digestTreesMatchSpec
