/-
  The walk of the law: For every unit of at most 300 bytes and every number for which there is a twin, the twin of the twin is the unit, and the twins of two different numbers are different.
-/
import Derived.Test.YtbejmcndflmgaaaDoorPLaw
namespace Go.Proofs.YtbejmcndflmgaaaDoor.printInvolution
open Go.RowKit
set_option linter.unusedVariables false
attribute [local go_sem] eqGuard_wv binOp_add_wv binOp_and_wv binOp_or_wv binOp_xor_wv binOp_shr_wv binOp_shl_wv unary_xor_wv run_convert_wv run_store_wv run_storeCells_wv run_convert_bw

set_option maxHeartbeats 1000000 in
set_option maxRecDepth 100000 in
theorem walk (l0 : List UInt8) (a1 : Int) (a2 : Int) (w : World) (s0 : l0.length ≤ 140737488351232) (w1 : -9223372036854775808 ≤ a1 ∧ a1 ≤ 9223372036854775807) (w2 : -9223372036854775808 ≤ a2 ∧ a2 ≤ 9223372036854775807) (T1 : Tabs w) :
    Calls Tryd.prog 4 #[.string (str l0), .int .i64 a1, .int .i64 a2] w fun e w' => e = .returned (.bool true) ∧ Below w.heap.size w w' := by
  have HT := hideIt T1
  have HS0 := hideIt (fun W hW => sanity_any W (T1.keep hW))
  clear T1
  by_cases h300 : (300 : Int) < (l0.length : Int)
  · have HZ := hideIt (str_size l0)
    generalize str l0 = s at *
    have hsz : (300 : Int) < (s.size : Int) := by rw [HZ.out]; exact h300
    go_enter Tryd.func4, Tryd.ntmps4
    go_wp2_with (go_at_call 8; refine (HS0.out _ (Below.refl _ _)).mono ?_; rintro e w' ⟨rfl, hb⟩; have HB := hideIt hb; clear hb)
    go_ret
    exact ⟨rfl, HB.out⟩
  have hs3 : ¬ (300 : Int) < ((str l0).size : Int) := by rw [str_size]; exact h300
  have HTW := hideIt (tw_any l0 a1 w HT.out)
  have HTJ := hideIt (fun W (hW : Below w.heap.size w W) => tw_any l0 a2 W (HT.out.keep hW))
  by_cases hk : 0 ≤ a1 ∧ a1 < spc l0.length
  · obtain ⟨hS, hE, hj, h2000⟩ := tw_ok hk
    have HTB := hideIt (fun W (hW : Below w.heap.size w W) => tw_any (twin l0 a1.toNat) a1 W (HT.out.keep hW))
    have hlen := twin_len l0 _ hj
    obtain ⟨hS3, hE3, _, _⟩ := tw_ok (l := twin l0 a1.toNat) (k := a1) (by rw [hlen]; exact hk)
    rw [hS3, hE3, twin_back _ _ hj] at HTB
    rw [hS, hE] at HTW
    have hsame := str_eqlT 9 l0
    clear hS3 hE3 hS hE hlen
    by_cases hk2 : 0 ≤ a2 ∧ a2 < spc l0.length
    · obtain ⟨hS, hE, hj2, _⟩ := tw_ok hk2
      rw [hS, hE] at HTJ
      clear hS hE
      by_cases hkj : a1 = a2
      · subst hkj
        have hst := str_eqlT 9 (twin l0 a1.toNat)
        have hin := int_eqlT 3 a1
        generalize str (twin l0 a1.toNat) = t at *
        generalize str l0 = s at *
        clear hk hk2 hj hj2 w1 w2 s0 h300 h2000
        go_enter Tryd.func4, Tryd.ntmps4
        go_wp2_with fail
        refine HTW.out.mono ?_
        rintro e w2 ⟨rfl, hb2⟩
        have HB2 := hideIt hb2
        clear hb2 HTW
        go_wp2_with fail
        refine (HTJ.out _ HB2.out).mono ?_
        rintro e w3 ⟨rfl, hb3⟩
        have HB3 := hideIt (HB2.out.trans (hb3.mono HB2.out.size))
        clear hb3 HB2 HTJ
        go_wp2_with fail
        refine (HTB.out _ HB3.out).mono ?_
        rintro e w4 ⟨rfl, hb4⟩
        have HB4 := hideIt (HB3.out.trans (hb4.mono HB3.out.size))
        clear hb4 HB3 HTB
        go_wp2_with fail
        refine (HS0.out _ HB4.out).mono ?_
        rintro e w5 ⟨rfl, hb5⟩
        have HB5 := hideIt (HB4.out.trans (hb5.mono HB4.out.size))
        clear hb5 HB4 HS0
        go_wp2_with fail
        go_ret
        exact ⟨rfl, HB5.out⟩
      · have hst := str_eqlF 9 (fun h => hkj (by have := twin_inj l0 _ _ hj hj2 h; omega))
        have hin := int_eqlF 3 hkj
        generalize str (twin l0 a1.toNat) = t at *
        generalize str (twin l0 a2.toNat) = u at *
        generalize str l0 = s at *
        clear hk hk2 hj hj2 w1 w2 s0 h300 h2000 hkj
        go_enter Tryd.func4, Tryd.ntmps4
        go_wp2_with fail
        refine HTW.out.mono ?_
        rintro e w2 ⟨rfl, hb2⟩
        have HB2 := hideIt hb2
        clear hb2 HTW
        go_wp2_with fail
        refine (HTJ.out _ HB2.out).mono ?_
        rintro e w3 ⟨rfl, hb3⟩
        have HB3 := hideIt (HB2.out.trans (hb3.mono HB2.out.size))
        clear hb3 HB2 HTJ
        go_wp2_with fail
        refine (HTB.out _ HB3.out).mono ?_
        rintro e w4 ⟨rfl, hb4⟩
        have HB4 := hideIt (HB3.out.trans (hb4.mono HB3.out.size))
        clear hb4 HB3 HTB
        go_wp2_with fail
        refine (HS0.out _ HB4.out).mono ?_
        rintro e w5 ⟨rfl, hb5⟩
        have HB5 := hideIt (HB4.out.trans (hb5.mono HB4.out.size))
        clear hb5 HB4 HS0
        go_wp2_with fail
        go_ret
        exact ⟨rfl, HB5.out⟩
    · obtain ⟨hS, hE⟩ := tw_no hk2
      rw [hS, hE] at HTJ
      clear hS hE
      generalize str (twin l0 a1.toNat) = t at *
      generalize str l0 = s at *
      clear hk hk2 hj w1 w2 s0 h300 h2000
      go_enter Tryd.func4, Tryd.ntmps4
      go_wp2_with fail
      refine HTW.out.mono ?_
      rintro e w2 ⟨rfl, hb2⟩
      have HB2 := hideIt hb2
      clear hb2 HTW
      go_wp2_with fail
      refine (HTJ.out _ HB2.out).mono ?_
      rintro e w3 ⟨rfl, hb3⟩
      have HB3 := hideIt (HB2.out.trans (hb3.mono HB2.out.size))
      clear hb3 HB2 HTJ
      go_wp2_with fail
      refine (HTB.out _ HB3.out).mono ?_
      rintro e w4 ⟨rfl, hb4⟩
      have HB4 := hideIt (HB3.out.trans (hb4.mono HB3.out.size))
      clear hb4 HB3 HTB
      go_wp2_with fail
      refine (HS0.out _ HB4.out).mono ?_
      rintro e w5 ⟨rfl, hb5⟩
      have HB5 := hideIt (HB4.out.trans (hb5.mono HB4.out.size))
      clear hb5 HB4 HS0
      go_wp2_with fail
      go_ret
      exact ⟨rfl, HB5.out⟩
  obtain ⟨hS, hE⟩ := tw_no hk
  rw [hS, hE] at HTW
  clear hS hE
  generalize str l0 = s at *
  generalize twS l0 a2 = uS at *
  generalize twE l0 a2 = uE at *
  clear hk w1 w2 s0 h300
  go_enter Tryd.func4, Tryd.ntmps4
  go_wp2_with fail
  refine HTW.out.mono ?_
  rintro e w2 ⟨rfl, hb2⟩
  have HB2 := hideIt hb2
  clear hb2 HTW
  go_wp2_with fail
  refine (HTJ.out _ HB2.out).mono ?_
  rintro e w3 ⟨rfl, hb3⟩
  have HB3 := hideIt (HB2.out.trans (hb3.mono HB2.out.size))
  clear hb3 HB2 HTJ
  go_wp2_with fail
  refine (HS0.out _ HB3.out).mono ?_
  rintro e w5 ⟨rfl, hb5⟩
  have HB5 := hideIt (HB3.out.trans (hb5.mono HB3.out.size))
  clear hb5 HB3 HS0
  go_wp2_with fail
  go_ret
  exact ⟨rfl, HB5.out⟩

end Go.Proofs.YtbejmcndflmgaaaDoor.printInvolution
