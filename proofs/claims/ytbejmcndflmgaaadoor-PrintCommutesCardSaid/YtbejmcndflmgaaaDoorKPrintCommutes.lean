/-
  The walk of the law: For every unit of at most 300 bytes and any two numbers that have twins, taking the twins one after the other in either order leads to the same string, whose fingerprint is that of the unit.
-/
import Derived.Test.YtbejmcndflmgaaaDoorPLaw
namespace Go.Proofs.YtbejmcndflmgaaaDoor.printCommutes
open Go.RowKit
set_option linter.unusedVariables false
attribute [local go_sem] eqGuard_wv binOp_add_wv binOp_and_wv binOp_or_wv binOp_xor_wv binOp_shr_wv binOp_shl_wv unary_xor_wv run_convert_wv run_store_wv run_storeCells_wv run_convert_bw

set_option maxHeartbeats 1000000 in
set_option maxRecDepth 100000 in
theorem walk (l0 : List UInt8) (a1 : Int) (a2 : Int) (w : World) (s0 : l0.length ≤ 140737488351232) (w1 : -9223372036854775808 ≤ a1 ∧ a1 ≤ 9223372036854775807) (w2 : -9223372036854775808 ≤ a2 ∧ a2 ≤ 9223372036854775807) (T1 : Tabs w) :
    Calls Tryd.prog 5 #[.string (str l0), .int .i64 a1, .int .i64 a2] w fun e w' => e = .returned (.bool true) ∧ Below w.heap.size w w' := by
  have HT := hideIt T1
  have HS0 := hideIt (fun W hW => sanity_any W (T1.keep hW))
  clear T1
  by_cases h300 : (300 : Int) < (l0.length : Int)
  · have HZ := hideIt (str_size l0)
    generalize str l0 = s at *
    have hsz : (300 : Int) < (s.size : Int) := by rw [HZ.out]; exact h300
    go_enter Tryd.func5, Tryd.ntmps5
    go_wp2_with fail
    refine (HS0.out _ (Below.refl _ _)).mono ?_
    rintro e w' ⟨rfl, hb⟩
    have HB := hideIt hb
    clear hb
    go_wp2_with fail
    go_ret
    exact ⟨rfl, HB.out⟩
  have hs3 : ¬ (300 : Int) < ((str l0).size : Int) := by rw [str_size]; exact h300
  have HSZ := hideIt (str_size l0)
  have HSP := hideIt (fun W => rspace_any (l0.length : Int) W)
  by_cases h1 : a1 < 0
  · clear w1 w2
    generalize str l0 = s at *
    go_enter Tryd.func5, Tryd.ntmps5
    go_wp2_with fail
    refine (HS0.out _ (Below.refl _ _)).mono ?_
    rintro e w' ⟨rfl, hb⟩
    have HB := hideIt hb
    clear hb
    go_wp2_with fail
    go_ret
    exact ⟨rfl, HB.out⟩
  by_cases h2 : spc l0.length ≤ a1
  · clear w1 w2
    generalize spc (l0.length : Int) = sp at *
    generalize str l0 = s at *
    go_enter Tryd.func5, Tryd.ntmps5
    go_wp2_with fail
    rw [HSZ.out]
    refine (HSP.out _).mono ?_
    rintro e w' ⟨rfl, rfl⟩
    go_wp2_with fail
    refine (HS0.out _ (Below.refl _ _)).mono ?_
    rintro e w' ⟨rfl, hb⟩
    have HB := hideIt hb
    clear hb
    go_wp2_with fail
    go_ret
    exact ⟨rfl, HB.out⟩
  by_cases h3 : a2 < 0
  · clear w1 w2
    generalize spc (l0.length : Int) = sp at *
    generalize str l0 = s at *
    go_enter Tryd.func5, Tryd.ntmps5
    go_wp2_with fail
    rw [HSZ.out]
    refine (HSP.out _).mono ?_
    rintro e w' ⟨rfl, rfl⟩
    go_wp2_with fail
    refine (HS0.out _ (Below.refl _ _)).mono ?_
    rintro e w' ⟨rfl, hb⟩
    have HB := hideIt hb
    clear hb
    go_wp2_with fail
    go_ret
    exact ⟨rfl, HB.out⟩
  by_cases h4 : spc l0.length ≤ a2
  · clear w1 w2
    generalize spc (l0.length : Int) = sp at *
    generalize str l0 = s at *
    go_enter Tryd.func5, Tryd.ntmps5
    go_wp2_with fail
    rw [HSZ.out]
    refine (HSP.out _).mono ?_
    rintro e w' ⟨rfl, rfl⟩
    go_wp2_with fail
    rw [HSZ.out]
    refine (HSP.out _).mono ?_
    rintro e w' ⟨rfl, rfl⟩
    go_wp2_with fail
    refine (HS0.out _ (Below.refl _ _)).mono ?_
    rintro e w' ⟨rfl, hb⟩
    have HB := hideIt hb
    clear hb
    go_wp2_with fail
    go_ret
    exact ⟨rfl, HB.out⟩
  have hk : 0 ≤ a1 ∧ a1 < spc l0.length := by omega
  have hj : 0 ≤ a2 ∧ a2 < spc l0.length := by omega
  obtain ⟨sk, ek, tk, h2000⟩ := tw_ok hk
  obtain ⟨sj, ej, tj, _⟩ := tw_ok hj
  have HTK := hideIt (tw_any l0 a1 w HT.out)
  have HTJ := hideIt (fun W (hW : Below w.heap.size w W) => tw_any l0 a2 W (HT.out.keep hW))
  have HTKJ := hideIt (fun W (hW : Below w.heap.size w W) => tw_any (twin l0 a1.toNat) a2 W (HT.out.keep hW))
  have HTJK := hideIt (fun W (hW : Below w.heap.size w W) => tw_any (twin l0 a2.toNat) a1 W (HT.out.keep hW))
  rw [sk, ek] at HTK
  rw [sj, ej] at HTJ
  have hlk := twin_len l0 _ tk
  have hlj := twin_len l0 _ tj
  obtain ⟨s1, e1, t1, _⟩ := tw_ok (l := twin l0 a1.toNat) (k := a2) (by rw [hlk]; exact hj)
  obtain ⟨s2, e2, t2, _⟩ := tw_ok (l := twin l0 a2.toNat) (k := a1) (by rw [hlj]; exact hk)
  rw [s1, e1] at HTKJ
  rw [s2, e2, ← twin_swap l0 _ _ tk tj] at HTJK
  have HO1 := hideIt (fun W (hW : Below w.heap.size w W) => fof_any (twin (twin l0 a1.toNat) a2.toNat) W (by rw [twin_len _ _ t1, hlk]; omega) (HT.out.keep hW))
  have HO2 := hideIt (fun W (hW : Below w.heap.size w W) => fof_any l0 W (by omega) (HT.out.keep hW))
  rw [twin_crc _ _ t1, twin_crc _ _ tk] at HO1
  have HST := hideIt (str_eqlT 9 (twin (twin l0 a1.toNat) a2.toNat))
  have HEQ := hideIt (wv_eqlT 27 (crc l0))
  clear sk ek tk h2000 sj ej tj hlk hlj s1 e1 t1 s2 e2 t2 hk hj w1 w2 s0 h300
  generalize crc l0 = z at *
  generalize spc (l0.length : Int) = sp at *
  generalize str (twin (twin l0 a1.toNat) a2.toNat) = x at *
  generalize str (twin l0 a1.toNat) = t at *
  generalize str (twin l0 a2.toNat) = u at *
  generalize str l0 = s at *
  have hd1 : decide (sp ≤ a1) = false := decide_eq_false h2
  have hd2 : decide (sp ≤ a2) = false := decide_eq_false h4
  have hd3 : decide (a2 < 0) = false := decide_eq_false h3
  go_enter Tryd.func5, Tryd.ntmps5
  go_wp2_with fail
  rw [HSZ.out]
  refine (HSP.out _).mono ?_
  rintro e w' ⟨rfl, rfl⟩
  go_wp2_with fail
  rw [HSZ.out]
  refine (HSP.out _).mono ?_
  rintro e w' ⟨rfl, rfl⟩
  go_wp2_with fail
  have hst := HST.out
  have heq := HEQ.out
  refine (HTK.out).mono ?_
  rintro e w2 ⟨rfl, hb2⟩
  have HB2 := hideIt hb2
  clear hb2 HTK
  go_wp2_with fail
  refine (HTKJ.out _ HB2.out).mono ?_
  rintro e w3 ⟨rfl, hb3⟩
  have HB3 := hideIt (HB2.out.trans (hb3.mono HB2.out.size))
  clear hb3 HTKJ HB2
  go_wp2_with fail
  refine (HTJ.out _ HB3.out).mono ?_
  rintro e w4 ⟨rfl, hb4⟩
  have HB4 := hideIt (HB3.out.trans (hb4.mono HB3.out.size))
  clear hb4 HTJ HB3
  go_wp2_with fail
  refine (HTJK.out _ HB4.out).mono ?_
  rintro e w5 ⟨rfl, hb5⟩
  have HB5 := hideIt (HB4.out.trans (hb5.mono HB4.out.size))
  clear hb5 HTJK HB4
  go_wp2_with fail
  refine (HS0.out _ HB5.out).mono ?_
  rintro e w6 ⟨rfl, hb6⟩
  have HB6 := hideIt (HB5.out.trans (hb6.mono HB5.out.size))
  clear hb6 HS0 HB5
  go_wp2_with fail
  refine (HO1.out _ HB6.out).mono ?_
  rintro e w7 ⟨rfl, hb7⟩
  have HB7 := hideIt (HB6.out.trans (hb7.mono HB6.out.size))
  clear hb7 HO1 HB6
  go_wp2_with fail
  refine (HO2.out _ HB7.out).mono ?_
  rintro e w8 ⟨rfl, hb8⟩
  have HB8 := hideIt (HB7.out.trans (hb8.mono HB7.out.size))
  clear hb8 HO2 HB7
  go_wp2_with fail
  go_ret
  exact ⟨rfl, HB8.out⟩

end Go.Proofs.YtbejmcndflmgaaaDoor.printCommutes
