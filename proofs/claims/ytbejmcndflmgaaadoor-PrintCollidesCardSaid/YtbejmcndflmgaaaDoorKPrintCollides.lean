/-
  The walk of the law: For every unit of at most 300 bytes and every number for which there is a twin, the twin is different from the unit, has the same length and the same fingerprint.
-/
import Derived.Test.YtbejmcndflmgaaaDoorPSan
namespace Go.Proofs.YtbejmcndflmgaaaDoor.printCollides
open Go.RowKit
set_option linter.unusedVariables false
attribute [local go_sem] eqGuard_wv binOp_add_wv binOp_and_wv binOp_or_wv binOp_xor_wv binOp_shr_wv binOp_shl_wv unary_xor_wv run_convert_wv run_store_wv run_storeCells_wv run_convert_bw

theorem str_ne (t : TypeId) {a b : List UInt8} (h : a ≠ b) : binOp .neq t (.string (str a)) (.string (str b)) = pure (.bool true) := by
  rw [binOp_string_neq]
  have : ((str a).toList != (str b).toList) = true := by
    rw [bne_iff_ne]
    intro he
    apply h
    have h2 : (str a).data.toList = (str b).data.toList := by simpa [ByteArray.toList_eq] using he
    rwa [str_list, str_list] at h2
  show pure (Value.bool ((str a).toList != (str b).toList)) = _
  rw [this]
theorem wv_eq (t : TypeId) (z : UInt32) : binOp .eql t (wv z) (wv z) = pure (.bool true) := by
  unfold wv
  rw [binOp_eql]
  simp

set_option maxHeartbeats 1000000 in
set_option maxRecDepth 100000 in
theorem walk (l0 : List UInt8) (a1 : Int) (w : World) (s0 : l0.length ≤ 140737488351232) (w1 : -9223372036854775808 ≤ a1 ∧ a1 ≤ 9223372036854775807) (T1 : Tabs w) :
    Calls Tryd.prog 3 #[.string (str l0), .int .i64 a1] w fun e w' => e = .returned (.bool true) ∧ Below w.heap.size w w' := by
  have HT := hideIt T1
  have HS0 := hideIt (fun W hW => sanity_any W (T1.keep hW))
  clear T1
  by_cases h300 : (300 : Int) < (l0.length : Int)
  · have HZ := hideIt (str_size l0)
    generalize str l0 = s at *
    have hsz : (300 : Int) < (s.size : Int) := by rw [HZ.out]; exact h300
    go_enter Tryd.func3, Tryd.ntmps3
    go_wp2_with (go_at_call 8; refine (HS0.out _ (Below.refl _ _)).mono ?_; rintro e w' ⟨rfl, hb⟩; have HB := hideIt hb; clear hb)
    go_ret
    exact ⟨rfl, HB.out⟩
  have hs3 : ¬ (300 : Int) < ((str l0).size : Int) := by rw [str_size]; exact h300
  have HTW := hideIt (tw_any l0 a1 w HT.out)
  have HSP := hideIt (fun W => space_any ((str l0).size : Int) W)
  rw [str_size] at HSP
  by_cases hk : 0 ≤ a1 ∧ a1 < spc l0.length
  · obtain ⟨h5, h6, h7⟩ := spc_some hk
    have hS : twS l0 a1 = twin l0 a1.toNat := by unfold twS; rw [if_pos hk]
    have hE : twE l0 a1 = 0 := by unfold twE; rw [if_pos hk]
    rw [hS, hE] at HTW
    have hj : a1.toNat + 32 < 8 * l0.length := by omega
    have hne := str_ne 9 (twin_ne l0 _ hj)
    have HO1 := hideIt (fun W (hW : Below w.heap.size w W) => fof_any (twin l0 a1.toNat) W (by rw [twin_len _ _ hj]; omega) (HT.out.keep hW))
    have HO2 := hideIt (fun W (hW : Below w.heap.size w W) => fof_any l0 W (by omega) (HT.out.keep hW))
    rw [twin_crc _ _ hj] at HO1
    have hlen : (str (twin l0 a1.toNat)).size = (str l0).size := by rw [str_size, str_size, twin_len _ _ hj]
    have heq := wv_eq 27 (crc l0)
    have hk1 := hk.1
    have hk2 := hk.2
    have HSZ := hideIt (str_size l0)
    generalize crc l0 = z at *
    generalize spc (l0.length : Int) = sp at *
    generalize str (twin l0 a1.toNat) = t at *
    generalize str l0 = s at *
    clear hk hS hE hj h5 h6 h7 h300 w1 s0
    go_enter Tryd.func3, Tryd.ntmps3
    go_wp2_with fail
    refine HTW.out.mono ?_
    rintro e w2 ⟨rfl, hb2⟩
    have HB2 := hideIt hb2
    clear hb2 HTW
    go_wp2_with fail
    refine (HS0.out _ HB2.out).mono ?_
    rintro e w3 ⟨rfl, hb3⟩
    have HB3 := hideIt (HB2.out.trans (hb3.mono HB2.out.size))
    clear hb3 HB2 HS0
    go_wp2_with fail
    rw [HSZ.out]
    refine (HSP.out _).mono ?_
    rintro e w' ⟨rfl, rfl⟩
    go_wp2_with fail
    refine (HO1.out _ HB3.out).mono ?_
    rintro e w4 ⟨rfl, hb4⟩
    have HB4 := hideIt (HB3.out.trans (hb4.mono HB3.out.size))
    clear hb4 HB3 HO1
    go_wp2_with fail
    refine (HO2.out _ HB4.out).mono ?_
    rintro e w5 ⟨rfl, hb5⟩
    have HB5 := hideIt (HB4.out.trans (hb5.mono HB4.out.size))
    clear hb5 HB4 HO2
    go_wp2_with fail
    go_ret
    exact ⟨rfl, HB5.out⟩
  have hS : twS l0 a1 = [] := by unfold twS; rw [if_neg hk]
  have hE : twE l0 a1 = 1 := by unfold twE; rw [if_neg hk]
  rw [hS, hE] at HTW
  have HSZ := hideIt (str_size l0)
  by_cases h0 : 0 ≤ a1
  · have h1 : ¬ a1 < spc l0.length := fun h => hk ⟨h0, h⟩
    have H1 := hideIt h1
    generalize spc (l0.length : Int) = sp at *
    generalize str l0 = s at *
    clear hk hS hE h300 w1 s0
    go_enter Tryd.func3, Tryd.ntmps3
    go_wp2_with fail
    refine HTW.out.mono ?_
    rintro e w2 ⟨rfl, hb2⟩
    have HB2 := hideIt hb2
    clear hb2 HTW
    go_wp2_with fail
    refine (HS0.out _ HB2.out).mono ?_
    rintro e w3 ⟨rfl, hb3⟩
    have HB3 := hideIt (HB2.out.trans (hb3.mono HB2.out.size))
    clear hb3 HB2 HS0
    go_wp2_with fail
    rw [HSZ.out]
    refine (HSP.out _).mono ?_
    rintro e w' ⟨rfl, rfl⟩
    go_wp2_with fail
    go_ret
    refine ⟨?_, HB3.out⟩
    show Ending.returned (.bool (!decide (a1 < sp))) = _
    rw [decide_eq_false (Int.not_lt.2 H1.out)]
    rfl
  · generalize str l0 = s at *
    clear hk hS hE h300 w1 s0
    go_enter Tryd.func3, Tryd.ntmps3
    go_wp2_with fail
    refine HTW.out.mono ?_
    rintro e w2 ⟨rfl, hb2⟩
    have HB2 := hideIt hb2
    clear hb2 HTW
    go_wp2_with fail
    refine (HS0.out _ HB2.out).mono ?_
    rintro e w3 ⟨rfl, hb3⟩
    have HB3 := hideIt (HB2.out.trans (hb3.mono HB2.out.size))
    clear hb3 HB2 HS0
    go_wp2_with fail
    go_ret
    exact ⟨rfl, HB3.out⟩

end Go.Proofs.YtbejmcndflmgaaaDoor.printCollides
