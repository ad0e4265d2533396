/-
  The walk of the law: Applying a plan, and the reads of it, are what the reference says.
-/
import Derived.Test.YtklngodlijiccaaDoorRepC3
namespace Go.Proofs.YtklngodlijiccaaDoor.repairApplyMatchesSpec
open Go.RowKit
set_option linter.unusedVariables false

theorem few_sp {us : List (List UInt8)} (h : fewB us = true) : us.length ≤ 24 ∧ ∀ u ∈ us, u.length ≤ 64 := by
  unfold fewB at h
  simp only [Bool.and_eq_true, decide_eq_true_eq, List.all_eq_true] at h
  exact h

set_option maxHeartbeats 1600000 in
set_option maxRecDepth 100000 in
theorem walk (a0 : Cd) (A0 : Option Addr) (c0 : Nat) (a1 : Int) (l1 : List (Int × Int)) (A1 : Option Addr) (c1 : Nat) (l2 : List (List UInt8)) (A2 : Option Addr) (c2 : Nat) (w : World) (x0 : CIn w a0 A0) (x1 : Sl w w.heap.size A1 2 l1.length (zcs l1)) (m1 : l1.length ≤ 9223372036854775807) (x2 : Sl w w.heap.size A2 1 l2.length (l2.map sv)) (m2 : l2.length ≤ 9223372036854775807) (T1 : Tabs w) :
    Calls Tryd.prog 5 #[a0.v A0 c0, .agg #[.int .i64 a1, .slice A1 l1.length c1], .slice A2 l2.length c2] w fun e w' => e = .returned (.bool true) ∧ Below w.heap.size w w' := by
  obtain ⟨V0, hV0⟩ : ∃ W, W = w.alloc (.cells (a0.cs A0 c0).toArray 24) := ⟨_, rfl⟩
  have hs0 : V0.heap.size = w.heap.size + 1 := by rw [hV0]; simp
  have hb1 : Below w.heap.size w V0 := by rw [hV0]; exact below_new w _
  obtain ⟨W0, hW0⟩ : ∃ W, W = V0.alloc (.cells #[.int .i64 a1, .slice A1 l1.length c1] 30) := ⟨_, rfl⟩
  have hb2 : Below V0.heap.size V0 W0 := by rw [hW0]; exact below_new V0 _
  have hb0 : Below w.heap.size w W0 := hb1.trans (hb2.mono hb1.size)
  have HB0 := hideIt hb0
  have HBC := hideIt (show BC W0 w.heap.size a0 A0 c0 from BC.keep (by rw [hV0]; exact BC.new c0 x0) hb2)
  have hbp : Blk W0 (w.heap.size + 1) 30 [.int .i64 a1, .slice A1 l1.length c1] := by rw [hW0, ← hs0]; exact Blk.new V0 30 [.int .i64 a1, .slice A1 l1.length c1]
  have HPP := hideIt (fun (W : World) (h : Below W0.heap.size W0 W) => hbp.kept h hbp.lt)
  have HT := hideIt (T1.keep hb0)
  have HX := hideIt ((x1.below hb0).wide hb0.size)
  have HY := hideIt ((x2.below hb0).wide hb0.size)
  have HWE := hideIt (show W0 = (w.alloc (.cells (a0.cs A0 c0).toArray 24)).alloc (.cells #[.int .i64 a1, .slice A1 l1.length c1] 30) by rw [hW0, hV0])
  have HSA := hideIt (fun (W : World) (h : Below W0.heap.size W0 W) => sanity_any W (HT.out.keep h))
  have HSM := hideIt (small_any a0 A0 c0 W0 HBC.out.cin)
  have HFW := hideIt (fun (W : World) (h : Below W0.heap.size W0 W) => few_any l2 m2 A2 c2 W ((HY.out.below h).wide h.size))
  have hnot := not_b
  clear hV0 hs0 hb1 hb2 hbp hW0 hb0 x0 x1 x2 T1 m1 m2
  by_cases hsm : smB a0 = true
  · rw [hsm] at HSM
    have hS := smB_sm hsm
    by_cases hfw : fewB l2 = true
    · rw [hfw] at HFW
      obtain ⟨hf1, hf2⟩ := few_sp hfw
      by_cases h24 : (l1.length : Int) > 24
      · have hg1 : binOp .gtr 3 (.int .i64 (l1.length : Int)) (.int .i64 24) = pure (.bool true) := by rw [binOp_gtr, decide_eq_true h24]
        clear hsm hS hfw hf1 hf2 h24
        go_enter Tryd.func5, Tryd.ntmps5
        go_wp2_with (first | (go_at_call 10; rw [← HWE.out]; refine HSM.out.mono ?_; rintro e w1 ⟨rfl, hb⟩; have hp1 : w1.cell? ⟨w.heap.size + 1, 1, none⟩ = some (.slice A1 l1.length c1) := (HPP.out _ hb).cell 1; have G1 := hideIt hb; clear hb HSM) | ((with_reducible refine at_load ?_); refine wpList_ldC (by kernel_rfl) (.tmp 3) rfl (p := w.heap.size) (c := c0) rfl (by rw [← HWE.out]; exact HBC.out.box) ?_) | (go_at_call 22; refine (HFW.out _ G1.out).mono ?_; rintro e _ ⟨rfl, rfl⟩; clear HFW) | (go_at_call 11; refine (HSA.out _ G1.out).mono ?_; rintro e w2 ⟨rfl, hb⟩; have G2 := hideIt (G1.out.trans (hb.mono G1.out.size)); clear hb HSA))
        go_ret
        exact ⟨rfl, HB0.out.trans (G2.out.mono HB0.out.size)⟩
      · have hg1 : binOp .gtr 3 (.int .i64 (l1.length : Int)) (.int .i64 24) = pure (.bool false) := by rw [binOp_gtr, decide_eq_false h24]
        have hl24 : l1.length ≤ 24 := by omega
        have HAA := hideIt (fun (W : World) (h : Below W0.heap.size W0 W) => apply_any a0 A0 c0 W (HT.out.keep h) (HBC.out.keep h).cin a1 l1 (by omega) A1 c1 ((HX.out.below h).wide h.size) l2 (by omega) (fun u hu => by have := hf2 u hu; omega) A2 c2 ((HY.out.below h).wide h.size))
        have HAB := hideIt (fun (W : World) (h : Below W0.heap.size W0 W) => rapply_any a0 A0 c0 W (HBC.out.keep h).cin hS a1 l1 (by omega) A1 c1 ((HX.out.below h).wide h.size) l2 (by omega) (fun u hu => by have := hf2 u hu; omega) A2 c2 ((HY.out.below h).wide h.size))
        have HRA := hideIt (fun (W : World) (h : Below W0.heap.size W0 W) => reads_sl a1 l1 (by omega) A1 c1 W ((HX.out.below h).wide h.size))
        have HRB := hideIt (fun (W : World) (h : Below W0.heap.size W0 W) => rreads_sl a1 l1 (by omega) A1 c1 W ((HX.out.below h).wide h.size))
        have HIS := hideIt (ints_same (l1.map (·.1)) l1.length (List.length_map ..) (by omega))
        obtain ⟨rs, er, hr⟩ : ∃ rs er, aplR a0 a1 l1 l2 = (rs, er) := ⟨_, _, rfl⟩
        rw [hr] at HAA HAB
        have hse : binOp .eql 9 (.string (str rs)) (.string (str rs)) = pure (.bool true) := by rw [binOp_string_eql]; simp
        have he1 : binOp .eql 31 (.int .i64 er) (.int .i64 er) = pure (.bool true) := by rw [i_eql, decide_eq_true rfl]
        clear hsm hS hfw hf1 hf2 h24 hl24 hr
        go_enter Tryd.func5, Tryd.ntmps5
        go_wp2_with (first
          | (go_at_call 10; rw [← HWE.out]; refine HSM.out.mono ?_; rintro e w1 ⟨rfl, hb⟩; have hp1 : w1.cell? ⟨w.heap.size + 1, 1, none⟩ = some (.slice A1 l1.length c1) := (HPP.out _ hb).cell 1; have G1 := hideIt hb; clear hb HSM) | ((with_reducible refine at_load ?_); refine wpList_ldC (by kernel_rfl) (.tmp 3) rfl (p := w.heap.size) (c := c0) rfl (by rw [← HWE.out]; exact HBC.out.box) ?_) | (go_at_call 22; refine (HFW.out _ G1.out).mono ?_; rintro e _ ⟨rfl, rfl⟩; clear HFW) | ((with_reducible refine at_load ?_); refine wpList_ldC (by kernel_rfl) (.tmp 3) rfl (p := w.heap.size) (c := c0) rfl (HBC.out.keep G1.out).box ?_) | ((with_reducible refine at_load ?_); refine wpList_ldW (by kernel_rfl) (.tmp 4) rfl (p := w.heap.size + 1) rfl (HPP.out _ G1.out) ?_)
          | (go_at_call 23; refine (HAA.out _ G1.out).mono ?_; rintro e w3 ⟨rfl, hb⟩; have G3 := hideIt (G1.out.trans (hb.mono G1.out.size)); clear hb HAA)
          | ((with_reducible refine at_load ?_); refine wpList_ldC (by kernel_rfl) (.tmp 3) rfl (p := w.heap.size) (c := c0) rfl (HBC.out.keep G3.out).box ?_) | ((with_reducible refine at_load ?_); refine wpList_ldW (by kernel_rfl) (.tmp 4) rfl (p := w.heap.size + 1) rfl (HPP.out _ G3.out) ?_)
          | (go_at_call 24; refine (HAB.out _ G3.out).mono ?_; rintro e w4 ⟨rfl, hb⟩; have G4 := hideIt (G3.out.trans (hb.mono G3.out.size)); clear hb HAB))
        have HQQ := HPP
        have HBAG4 := hideIt (HPP.out _ G4.out)
        have HBBG4 := hideIt (HQQ.out _ G4.out)
        refine loads_begin_n 19 [(18, fun W => Blk W (w.heap.size + 1) 30 [.int .i64 a1, .slice A1 l1.length c1]), (18, fun W => Blk W (w.heap.size + 1) 30 [.int .i64 a1, .slice A1 l1.length c1])] rfl (by kernel_rfl) ?_
        have GD := hideIt G4.out.drew
        try simp only [Act.put]
        try simp only [List.setIfInBounds_toArray]
        try simp only [List.set_cons_succ]
        try simp only [List.set_cons_zero]
        refine wpAnyL_one (o := ⟨some 40, _, _, _, _, _⟩) 0 (by kernel_rfl) rfl (fun K hK => ?_)
        go_wp2_with (first | (go_at_call 11; refine (HSA.out _ GD.out).mono ?_; rintro e w10 ⟨rfl, hb⟩; have J10 := hideIt (GD.out.trans (hb.mono GD.out.size)); clear hb HSA))
        have HBAJ10 := hideIt (HPP.out _ J10.out)
        have HBBJ10 := hideIt (HQQ.out _ J10.out)
        refine hK _ _ (Hooks.add HBAJ10.out (Hooks.add HBBJ10.out (Hooks.nil _ _))) ?_
        clear hK K HBAG4 HBBG4
        try simp only [Act.put]
        try simp only [List.setIfInBounds_toArray]
        try simp only [List.set_cons_succ]
        try simp only [List.set_cons_zero]
        refine wpAnyL_move (oi := ⟨some 41, _, _, _, _, _⟩) 1 ?_ rfl (by kernel_rfl) (by kernel_rfl) (by kernel_rfl) (by kernel_rfl) (fun _ _ _ h => h) (by kernel_rfl) ?_ ((Hooks.add HBAJ10.out (Hooks.add HBBJ10.out (Hooks.nil _ _)))) ?_
        rotate_left
        · intro W'; go_simp; first | done | with_reducible rfl
        try simp only [Act.put]
        try simp only [List.setIfInBounds_toArray]
        try simp only [List.set_cons_succ]
        try simp only [List.set_cons_zero]
        refine wpAnyL_move (oi := ⟨some 42, _, _, _, _, _⟩) 2 ?_ rfl (by kernel_rfl) (by kernel_rfl) (by kernel_rfl) (by kernel_rfl) (fun _ _ _ h => h) (by kernel_rfl) ?_ ((Hooks.add HBAJ10.out (Hooks.add HBBJ10.out (Hooks.nil _ _)))) ?_
        rotate_left
        · intro W'; go_simp; first | done | with_reducible rfl
        try simp only [Act.put]
        try simp only [List.setIfInBounds_toArray]
        try simp only [List.set_cons_succ]
        try simp only [List.set_cons_zero]
        refine wpAnyL_move (oi := ⟨some 43, _, _, _, _, _⟩) 3 ?_ rfl (by kernel_rfl) (by kernel_rfl) (by kernel_rfl) (by kernel_rfl) (fun _ _ _ h => h) (by kernel_rfl) ?_ ((Hooks.add HBAJ10.out (Hooks.add HBBJ10.out (Hooks.nil _ _)))) ?_
        rotate_left
        · intro W'; go_simp; first | done | with_reducible rfl
        try simp only [Act.put]
        try simp only [List.setIfInBounds_toArray]
        try simp only [List.set_cons_succ]
        try simp only [List.set_cons_zero]
        refine wpAnyL_move (oi := ⟨some 44, _, _, _, _, _⟩) 4 ?_ rfl (by kernel_rfl) (by kernel_rfl) (by kernel_rfl) (by kernel_rfl) (fun _ _ _ h => h) (by kernel_rfl) ?_ ((Hooks.add HBAJ10.out (Hooks.add HBBJ10.out (Hooks.nil _ _)))) ?_
        rotate_left
        · intro W'; go_simp; first | done | with_reducible rfl
        try simp only [Act.put]
        try simp only [List.setIfInBounds_toArray]
        try simp only [List.set_cons_succ]
        try simp only [List.set_cons_zero]
        refine wpAnyL_move (oi := ⟨some 45, _, _, _, _, _⟩) 5 ?_ rfl (by kernel_rfl) (by kernel_rfl) (by kernel_rfl) (by kernel_rfl) (fun _ _ _ h => h) (by kernel_rfl) ?_ ((Hooks.add HBAJ10.out (Hooks.add HBBJ10.out (Hooks.nil _ _)))) ?_
        rotate_left
        · intro W'; go_simp; first | done | with_reducible rfl
        try simp only [Act.put]
        try simp only [List.setIfInBounds_toArray]
        try simp only [List.set_cons_succ]
        try simp only [List.set_cons_zero]
        refine wpAnyL_move (oi := ⟨some 46, _, _, _, _, _⟩) 6 ?_ rfl (by kernel_rfl) (by kernel_rfl) (by kernel_rfl) (by kernel_rfl) (fun _ _ _ h => h) (by kernel_rfl) ?_ ((Hooks.add HBAJ10.out (Hooks.add HBBJ10.out (Hooks.nil _ _)))) ?_
        rotate_left
        · intro W'; go_simp; first | done | with_reducible rfl
        try simp only [Act.put]
        try simp only [List.setIfInBounds_toArray]
        try simp only [List.set_cons_succ]
        try simp only [List.set_cons_zero]
        refine wpAnyL_move (oi := ⟨some 47, _, _, _, _, _⟩) 7 ?_ rfl (by kernel_rfl) (by kernel_rfl) (by kernel_rfl) (by kernel_rfl) (fun _ _ _ h => h) (by kernel_rfl) ?_ ((Hooks.add HBAJ10.out (Hooks.add HBBJ10.out (Hooks.nil _ _)))) ?_
        rotate_left
        · intro W'; go_simp; first | done | with_reducible rfl
        try simp only [Act.put]
        try simp only [List.setIfInBounds_toArray]
        try simp only [List.set_cons_succ]
        try simp only [List.set_cons_zero]
        refine wpAnyL_move (oi := ⟨some 48, _, _, _, _, _⟩) 8 ?_ rfl (by kernel_rfl) (by kernel_rfl) (by kernel_rfl) (by kernel_rfl) (fun _ _ _ h => h) (by kernel_rfl) ?_ ((Hooks.add HBAJ10.out (Hooks.add HBBJ10.out (Hooks.nil _ _)))) ?_
        rotate_left
        · intro W'; go_simp; first | done | with_reducible rfl
        try simp only [Act.put]
        try simp only [List.setIfInBounds_toArray]
        try simp only [List.set_cons_succ]
        try simp only [List.set_cons_zero]
        refine wpAnyL_move (oi := ⟨some 49, _, _, _, _, _⟩) 9 ?_ rfl (by kernel_rfl) (by kernel_rfl) (by kernel_rfl) (by kernel_rfl) (fun _ _ _ h => h) (by kernel_rfl) ?_ ((Hooks.add HBAJ10.out (Hooks.add HBBJ10.out (Hooks.nil _ _)))) ?_
        rotate_left
        · intro W'; go_simp; first | done | with_reducible rfl
        try simp only [Act.put]
        try simp only [List.setIfInBounds_toArray]
        try simp only [List.set_cons_succ]
        try simp only [List.set_cons_zero]
        refine wpAnyL_move (oi := ⟨some 50, _, _, _, _, _⟩) 10 ?_ rfl (by kernel_rfl) (by kernel_rfl) (by kernel_rfl) (by kernel_rfl) (fun _ _ _ h => h) (by kernel_rfl) ?_ ((Hooks.add HBAJ10.out (Hooks.add HBBJ10.out (Hooks.nil _ _)))) ?_
        rotate_left
        · intro W'; go_simp; first | done | with_reducible rfl
        try simp only [Act.put]
        try simp only [List.setIfInBounds_toArray]
        try simp only [List.set_cons_succ]
        try simp only [List.set_cons_zero]
        refine wpAnyL_move (oi := ⟨some 51, _, _, _, _, _⟩) 11 ?_ rfl (by kernel_rfl) (by kernel_rfl) (by kernel_rfl) (by kernel_rfl) (fun _ _ _ h => h) (by kernel_rfl) ?_ ((Hooks.add HBAJ10.out (Hooks.add HBBJ10.out (Hooks.nil _ _)))) ?_
        rotate_left
        · intro W'; go_simp; first | done | with_reducible rfl
        try simp only [Act.put]
        try simp only [List.setIfInBounds_toArray]
        try simp only [List.set_cons_succ]
        try simp only [List.set_cons_zero]
        refine wpAnyL_take (oi := ⟨some 52, _, _, _, _, _⟩) 12 18 (.agg #[.int .i64 a1, .slice A1 l1.length c1]) _ rfl (by kernel_rfl) (by kernel_rfl) (by kernel_rfl) (by kernel_rfl) (by kernel_rfl) (by kernel_rfl) (.head _) (fun _ _ _ h => h) (by kernel_rfl) (fun W' hW' => exec_load_blk (cs := [.int .i64 a1, .slice A1 l1.length c1]) rfl rfl hW' _ Tryd.underlying30 rfl iszP) (Hooks.add HBAJ10.out (Hooks.add HBBJ10.out (Hooks.nil _ _))) ?_
        try simp only [Act.put]
        try simp only [List.setIfInBounds_toArray]
        try simp only [List.set_cons_succ]
        try simp only [List.set_cons_zero]
        refine wpAnyL_take (oi := ⟨some 54, _, _, _, _, _⟩) 14 18 (.agg #[.int .i64 a1, .slice A1 l1.length c1]) _ rfl (by kernel_rfl) (by kernel_rfl) (by kernel_rfl) (by kernel_rfl) (by kernel_rfl) (by kernel_rfl) (.tail _ (.head _)) (fun _ _ _ h => h) (by kernel_rfl) (fun W' hW' => exec_load_blk (cs := [.int .i64 a1, .slice A1 l1.length c1]) rfl rfl hW' _ Tryd.underlying30 rfl iszP) (Hooks.add HBAJ10.out (Hooks.add HBBJ10.out (Hooks.nil _ _))) ?_
        try simp only [Act.put]
        try simp only [List.setIfInBounds_toArray]
        try simp only [List.set_cons_succ]
        try simp only [List.set_cons_zero]
        refine wpAnyL_one (o := ⟨some 53, _, _, _, _, _⟩) 13 (by kernel_rfl) rfl (fun K hK => ?_)
        go_wp2_with (first | (go_at_call 18; refine (HRA.out _ J10.out).mono ?_; rintro e w12 ⟨D, cd, rfl, hs, hb⟩; have HD12 := hideIt hs; have J12 := hideIt (J10.out.trans (hb.mono J10.out.size)); clear hb hs HRA))
        have HBAJ12 := hideIt (HPP.out _ J12.out)
        have HBBJ12 := hideIt (HQQ.out _ J12.out)
        refine hK _ _ (Hooks.add HBAJ12.out (Hooks.add HBBJ12.out (Hooks.nil _ _))) ?_
        clear hK K HBAJ10 HBBJ10
        try simp only [Act.put]
        try simp only [List.setIfInBounds_toArray]
        try simp only [List.set_cons_succ]
        try simp only [List.set_cons_zero]
        refine wpAnyL_one (o := ⟨some 55, _, _, _, _, _⟩) 15 (by kernel_rfl) rfl (fun K hK => ?_)
        go_wp2_with (first | (go_at_call 19; refine (HRB.out _ J12.out).mono ?_; rintro e w13 ⟨E, ce, rfl, hs, hb⟩; have HE13 := hideIt hs; have HD13 := hideIt ((HD12.out.below hb).wide hb.size); have J13 := hideIt (J12.out.trans (hb.mono J12.out.size)); clear hb hs HRB))
        have HBAJ13 := hideIt (HPP.out _ J13.out)
        have HBBJ13 := hideIt (HQQ.out _ J13.out)
        refine hK _ _ (Hooks.add HBAJ13.out (Hooks.add HBBJ13.out (Hooks.nil _ _))) ?_
        clear hK K HBAJ12 HBBJ12
        try simp only [Act.put]
        try simp only [List.setIfInBounds_toArray]
        try simp only [List.set_cons_succ]
        try simp only [List.set_cons_zero]
        refine wpAnyL_one (o := ⟨some 56, _, _, _, _, _⟩) 16 (by kernel_rfl) rfl (fun K hK => ?_)
        go_wp2_with (first | (go_at_call 16; refine (HIS.out _ _ _ _ _ HD13.out HE13.out).mono ?_; rintro e w14 ⟨rfl, hb⟩; have J14 := hideIt (J13.out.trans (hb.mono J13.out.size)); clear hb HIS))
        have HBAJ14 := hideIt (HPP.out _ J14.out)
        have HBBJ14 := hideIt (HQQ.out _ J14.out)
        refine hK _ _ (Hooks.add HBAJ14.out (Hooks.add HBBJ14.out (Hooks.nil _ _))) ?_
        clear hK K HBAJ13 HBBJ13
        try simp only [Act.put]
        try simp only [List.setIfInBounds_toArray]
        try simp only [List.set_cons_succ]
        try simp only [List.set_cons_zero]
        refine wpAnyL_move (oi := ⟨some 57, _, _, _, _, _⟩) 17 ?_ rfl (by kernel_rfl) (by kernel_rfl) (by kernel_rfl) (by kernel_rfl) (fun _ _ _ h => h) (by kernel_rfl) ?_ ((Hooks.add HBAJ14.out (Hooks.add HBBJ14.out (Hooks.nil _ _)))) ?_
        rotate_left
        · intro W'; go_simp; first | done | with_reducible rfl
        try simp only [Act.put]
        try simp only [List.setIfInBounds_toArray]
        try simp only [List.set_cons_succ]
        try simp only [List.set_cons_zero]
        refine loads_tail 18 (by kernel_rfl) (by kernel_rfl) (by kernel_rfl) (by kernel_rfl) ?_
        simp only [List.drop_succ_cons, List.drop_zero]
        go_wp2_with fail
        go_ret
        exact ⟨rfl, HB0.out.trans (J14.out.mono HB0.out.size)⟩
    · have hf : fewB l2 = false := Bool.eq_false_iff.2 hfw
      rw [hf] at HFW
      clear hsm hS hfw hf
      go_enter Tryd.func5, Tryd.ntmps5
      go_wp2_with (first | (go_at_call 10; rw [← HWE.out]; refine HSM.out.mono ?_; rintro e w1 ⟨rfl, hb⟩; have hp1 : w1.cell? ⟨w.heap.size + 1, 1, none⟩ = some (.slice A1 l1.length c1) := (HPP.out _ hb).cell 1; have G1 := hideIt hb; clear hb HSM) | ((with_reducible refine at_load ?_); refine wpList_ldC (by kernel_rfl) (.tmp 3) rfl (p := w.heap.size) (c := c0) rfl (by rw [← HWE.out]; exact HBC.out.box) ?_) | (go_at_call 22; refine (HFW.out _ G1.out).mono ?_; rintro e _ ⟨rfl, rfl⟩; clear HFW) | (go_at_call 11; refine (HSA.out _ G1.out).mono ?_; rintro e w2 ⟨rfl, hb⟩; have G2 := hideIt (G1.out.trans (hb.mono G1.out.size)); clear hb HSA))
      go_ret
      exact ⟨rfl, HB0.out.trans (G2.out.mono HB0.out.size)⟩
  · have hf : smB a0 = false := Bool.eq_false_iff.2 hsm
    rw [hf] at HSM
    clear hsm hf
    go_enter Tryd.func5, Tryd.ntmps5
    go_wp2_with (first | (go_at_call 10; rw [← HWE.out]; refine HSM.out.mono ?_; rintro e w1 ⟨rfl, hb⟩; have hp1 : w1.cell? ⟨w.heap.size + 1, 1, none⟩ = some (.slice A1 l1.length c1) := (HPP.out _ hb).cell 1; have G1 := hideIt hb; clear hb HSM) | ((with_reducible refine at_load ?_); refine wpList_ldC (by kernel_rfl) (.tmp 3) rfl (p := w.heap.size) (c := c0) rfl (by rw [← HWE.out]; exact HBC.out.box) ?_) | (go_at_call 11; refine (HSA.out _ G1.out).mono ?_; rintro e w2 ⟨rfl, hb⟩; have G2 := hideIt (G1.out.trans (hb.mono G1.out.size)); clear hb HSA))
    go_ret
    exact ⟨rfl, HB0.out.trans (G2.out.mono HB0.out.size)⟩

end Go.Proofs.YtklngodlijiccaaDoor.repairApplyMatchesSpec
