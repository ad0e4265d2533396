/-
  The walk of the law: The plans for all missing units are what the reference says.
-/
import Derived.Test.YtklngodlijiccaaDoorRepC2
namespace Go.Proofs.YtklngodlijiccaaDoor.repairAllMatchesSpec
open Go.RowKit
set_option linter.unusedVariables false


set_option maxHeartbeats 1600000 in
set_option maxRecDepth 100000 in
theorem walk (a0 : Cd) (A0 : Option Addr) (c0 : Nat) (l1 : List Bool) (A1 : Option Addr) (c1 : Nat) (w : World) (x0 : CIn w a0 A0) (x1 : Sl w w.heap.size A1 1 l1.length (l1.map bl)) (m1 : l1.length ≤ 140737488351232) (T1 : Tabs w) :
    Calls Tryd.prog 4 #[a0.v A0 c0, .slice A1 l1.length c1] w fun e w' => e = .returned (.bool true) ∧ Below w.heap.size w w' := by
  obtain ⟨W0, hW0⟩ : ∃ W, W = w.alloc (.cells (a0.cs A0 c0).toArray 24) := ⟨_, rfl⟩
  have hb0 : Below w.heap.size w W0 := by rw [hW0]; exact below_new w _
  have HB0 := hideIt hb0
  have HBC := hideIt (show BC W0 w.heap.size a0 A0 c0 by rw [hW0]; exact BC.new c0 x0)
  have HT := hideIt (T1.keep hb0)
  have HX := hideIt ((x1.below hb0).wide hb0.size)
  have HWE := hideIt hW0
  have HSA := hideIt (fun (W : World) (h : Below W0.heap.size W0 W) => sanity_any W (HT.out.keep h))
  have HSM := hideIt (small_any a0 A0 c0 W0 HBC.out.cin)
  have hnot := not_b
  clear hW0 hb0 x0 x1 T1 m1
  by_cases hsm : smB a0 = true
  · rw [hsm] at HSM
    have hS := smB_sm hsm
    have HAA := hideIt (fun (W : World) (h : Below W0.heap.size W0 W) => all_any a0 A0 c0 W (HT.out.keep h) (HBC.out.keep h).cin l1 A1 c1 ((HX.out.below h).wide h.size))
    have HAB := hideIt (fun (W : World) (h : Below W0.heap.size W0 W) => rall_any a0 A0 c0 W (HBC.out.keep h).cin hS l1 A1 c1 ((HX.out.below h).wide h.size))
    have hal := allR_len a0 l1
    obtain ⟨ps, er, hr⟩ : ∃ ps er, allR a0 l1 = (ps, er) := ⟨_, _, rfl⟩
    rw [hr] at HAA HAB hal
    have HAL := hideIt (show ps.length ≤ 32 ∧ ∀ q ∈ ps, q.2.length ≤ 32 from hal)
    have he1 : binOp .neq 31 (.int .i64 er) (.int .i64 er) = pure (.bool false) := by rw [i_neq]; simp
    have hne : binOp .neq 3 (.int .i64 (ps.length : Int)) (.int .i64 (ps.length : Int)) = pure (.bool false) := by rw [i_neq]; simp
    clear hsm hr hal hS
    go_enter Tryd.func4, Tryd.ntmps4
    go_wp2_with (first
      | (go_at_call 10; rw [← HWE.out]; refine HSM.out.mono ?_; rintro e w1 ⟨rfl, hb⟩; have G1 := hideIt hb; clear hb HSM) | ((with_reducible refine at_load ?_); refine wpList_ldC (by kernel_rfl) (.tmp 2) rfl (p := w.heap.size) (c := c0) rfl (by rw [← HWE.out]; exact HBC.out.box) ?_) | ((with_reducible refine at_load ?_); refine wpList_ldC (by kernel_rfl) (.tmp 2) rfl (p := w.heap.size) (c := c0) rfl (HBC.out.keep G1.out).box ?_)
      | (go_at_call 20; refine (HAA.out _ G1.out).mono ?_; rintro e w3 ⟨v3, rfl, hj, hb⟩; obtain ⟨F3, c3, rfl, _⟩ := hj.form; have HJ3 := hideIt hj; have G3 := hideIt (G1.out.trans (hb.mono G1.out.size)); clear hb hj HAA)
      | ((with_reducible refine at_load ?_); refine wpList_ldC (by kernel_rfl) (.tmp 2) rfl (p := w.heap.size) (c := c0) rfl (HBC.out.keep G3.out).box ?_)
      | (go_at_call 21; refine (HAB.out _ G3.out).mono ?_; rintro e w4 ⟨v4, rfl, hj, hb⟩; obtain ⟨F4, c4, rfl, _⟩ := hj.form; have HJ4 := hideIt hj; have HK4 := hideIt (HJ3.out.keep hb); have G4 := hideIt (G3.out.trans (hb.mono G3.out.size)); clear hb hj HAB HJ3))
    go_loopg [4, 38] ps.length (fun gk s6 s45 wr => ∃ i : Nat, i + gk = ps.length ∧ s6 = .bool false ∧ s45 = .int .i64 (i : Int) ∧ Aside (Below w4.heap.size w4 wr))
    case atStart => exact ⟨0, by omega, rfl, rfl, Below.refl _ _⟩
    case round =>
      obtain ⟨i, hi, rfl, rfl, HLW⟩ := hrel
      obtain ⟨w9, rfl⟩ : ∃ x, x = wr := ⟨wr, rfl⟩
      have K9 := hideIt (G4.out.trans (HLW.out.mono G4.out.size))
      have hl100 := HAL.out.1
      by_cases hlt : i < ps.length
      · have hinc := inc_c 3 i (by omega)
        have hji : (i : Int) < (ps.length : Int) := by omega
        obtain ⟨g7, o7, A7, d7, rfl, hg7, hc7, hs7, _⟩ := (HK4.out.keep HLW.out).at_ hlt
        obtain ⟨g8, o8, A8, d8, rfl, hg8, hc8, hs8, _⟩ := (HJ4.out.keep HLW.out).at_ hlt
        have HSS := hideIt (same_it ps[i].1 ps[i].2 (HAL.out.2 _ (List.getElem_mem hlt)))
        have HC7 := hideIt hc7
        have HC8 := hideIt hc8
        have HS7 := hideIt hs7
        have HS8 := hideIt hs8
        clear hg7 hg8 hc7 hc8 hs7 hs8
        go_wp2_with fail
        refine still_tail 8 (by kernel_rfl) (by kernel_rfl) ?_
        intro w9a hw9a
        have hca : w9a.cell? ⟨g7, o7 + i * 2, none⟩ = some (.int .i64 ps[i].1) := by rw [hw9a]; exact HC7.out 0 _ rfl
        have hcb : w9a.cell? ⟨g7, o7 + i * 2 + 1, none⟩ = some (.slice A7 ps[i].2.length d7) := by rw [hw9a]; exact HC7.out 1 _ rfl
        have hcc : w9a.cell? ⟨g8, o8 + i * 2, none⟩ = some (.int .i64 ps[i].1) := by rw [hw9a]; exact HC8.out 0 _ rfl
        have hcd : w9a.cell? ⟨g8, o8 + i * 2 + 1, none⟩ = some (.slice A8 ps[i].2.length d8) := by rw [hw9a]; exact HC8.out 1 _ rfl
        have HSa := hideIt (show Sl w9a w9a.heap.size A7 2 ps[i].2.length (tcs ps[i].2) by rw [hw9a]; exact HS7.out.below (Below.refl _ _).drew)
        have HSb := hideIt (show Sl w9a w9a.heap.size A8 2 ps[i].2.length (tcs ps[i].2) by rw [hw9a]; exact HS8.out.below (Below.refl _ _).drew)
        have HLa := hideIt (show Below w4.heap.size w4 w9a by rw [hw9a]; exact HLW.out.drew)
        clear hw9a HC7 HC8 HS7 HS8
        simp only [List.take_succ_cons, List.take_zero, List.drop_succ_cons, List.drop_zero]
        repeat still_step
        refine wpStill_nil ?_
        go_wp2_with (go_at_call 17; refine (HSS.out _ _ _ _ _ HSa.out HSb.out).mono ?_; rintro e w10 ⟨rfl, hb⟩; have HL10 := hideIt (HLa.out.trans (hb.mono HLa.out.size)); clear hb HSS)
        go_roundg (gk - 1)
        case measure => omega
        case rel => exact ⟨i + 1, by omega, rfl, by go_num, HL10.out⟩
      · have hji : ¬ (i : Int) < (ps.length : Int) := by omega
        go_wp2_with (go_at_call 11; refine (HSA.out _ K9.out).mono ?_; rintro e w10 ⟨rfl, hb⟩; have K10 := hideIt (K9.out.trans (hb.mono K9.out.size)); clear hb HSA)
        go_ret
        exact ⟨rfl, HB0.out.trans (K10.out.mono HB0.out.size)⟩
  · have hf : smB a0 = false := Bool.eq_false_iff.2 hsm
    rw [hf] at HSM
    clear hsm hf
    go_enter Tryd.func4, Tryd.ntmps4
    go_wp2_with (first | (go_at_call 10; rw [← HWE.out]; refine HSM.out.mono ?_; rintro e w1 ⟨rfl, hb⟩; have G1 := hideIt hb; clear hb HSM) | ((with_reducible refine at_load ?_); refine wpList_ldC (by kernel_rfl) (.tmp 2) rfl (p := w.heap.size) (c := c0) rfl (by rw [← HWE.out]; exact HBC.out.box) ?_) | (go_at_call 11; refine (HSA.out _ G1.out).mono ?_; rintro e w2 ⟨rfl, hb⟩; have G2 := hideIt (G1.out.trans (hb.mono G1.out.size)); clear hb HSA))
    go_ret
    exact ⟨rfl, HB0.out.trans (G2.out.mono HB0.out.size)⟩

end Go.Proofs.YtklngodlijiccaaDoor.repairAllMatchesSpec
