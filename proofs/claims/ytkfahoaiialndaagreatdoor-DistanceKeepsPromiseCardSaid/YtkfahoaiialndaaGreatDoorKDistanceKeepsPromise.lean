/-
  The walk of the law: the program keeps its promise: not more than Left units missing in addition, whichever, leave a decodable rest.
-/
import Derived.Test.YtkfahoaiialndaaGreatDoorDstL
import Derived.Test.YtkfahoaiialndaaGreatDoorDstX
namespace Go.Proofs.YtkfahoaiialndaaGreatDoor.distanceKeepsPromise
open Go.RowKit
set_option linter.unusedVariables false

theorem lsN_len (N : Nat) (l : List Int) : (lsN N l).length ≤ l.length := by
  unfold lsN
  rw [List.length_map]
  exact List.length_filter_le _ _

set_option maxHeartbeats 1600000 in
set_option maxRecDepth 100000 in
theorem walk (a0 : Cd) (A0 : Option Addr) (c0 : Nat) (l1 : List Bool) (A1 : Option Addr) (c1 : Nat) (B2 : Option Addr) (cb2 : Nat) (rows : List Int) (w : World) (x0 : CIn w a0 A0) (n0 : a0.name.length ≤ 9223372036854775807) (x1 : Sl w w.heap.size A1 1 l1.length (l1.map bl)) (m1 : l1.length ≤ 9223372036854775807) (xr : Sl w w.heap.size B2 1 rows.length (rows.map iv)) (mr : rows.length ≤ cb2) (kr : cb2 ≤ maxLen) (T1 : Tabs w) (pg : Pg) :
    Calls Tryz.prog 4 #[a0.v A0 c0, .slice A1 l1.length c1, .slice B2 rows.length cb2] w fun e w' => e = .returned (.bool true) ∧ Below w.heap.size w w' := by
  obtain ⟨W0, hW0⟩ : ∃ W, W = w.alloc (.cells (a0.cs A0 c0).toArray 24) := ⟨_, rfl⟩
  have hb0 : Below w.heap.size w W0 := by rw [hW0]; exact below_new w _
  have HB0 := hideIt hb0
  have HBC := hideIt (show BC W0 w.heap.size a0 A0 c0 by rw [hW0]; exact BC.new c0 x0)
  have HT := hideIt (T1.keep hb0)
  have HX := hideIt ((x1.below hb0).wide hb0.size)
  have HXR := hideIt ((xr.below hb0).wide hb0.size)
  have HWE := hideIt hW0
  have HPG := hideIt pg
  have HSA := hideIt (fun (W : World) (h : Below W0.heap.size W0 W) => sanity_any HPG.out W (HT.out.keep h))
  have HSM := hideIt (small9_any a0 A0 c0 W0 HBC.out.cin)
  have hrl : rows.length ≤ 9223372036854775807 := by unfold maxLen at kr; omega
  have HDI := hideIt (fun (W : World) (h : Below W0.heap.size W0 W) => distinct_any rows hrl B2 cb2 W ((HXR.out.below h).wide h.size))
  have hnot := not_b
  have HNM := hideIt n0
  clear hW0 hb0 x0 x1 xr T1 m1 mr kr pg n0 hrl
  by_cases hsm : sm9B a0 = true
  · rw [hsm] at HSM
    have HS9 := hideIt (sm9B_sm hsm)
    by_cases hnd : rows.Nodup
    · rw [decide_eq_true hnd] at HDI
      by_cases h12 : (l1.length : Int) > 12
      · have hg1 : binOp .gtr 3 (.int .i64 (l1.length : Int)) (.int .i64 12) = pure (.bool true) := by rw [binOp_gtr, decide_eq_true h12]
        clear hsm h12 hnd
        go_enter Tryz.func4, Tryz.ntmps4
        go_wp2_with (first | (go_at_call 9; rw [← HWE.out]; refine HSM.out.mono ?_; rintro e w1 ⟨rfl, hb⟩; have G1 := hideIt hb; clear hb HSM) | (go_at_call 20; refine (HDI.out _ G1.out).mono ?_; rintro e w2 ⟨rfl, n2, rfl⟩; have G2 := hideIt (below_drewN G1.out n2); clear HDI) | ((with_reducible refine at_load ?_); refine wpList_ldC (by kernel_rfl) (.tmp 3) rfl (p := w.heap.size) (c := c0) rfl (by first | exact (HBC.out.keep G2.out).box | (rw [← HWE.out]; exact HBC.out.box)) ?_) | (go_at_call 10; refine (HSA.out _ G2.out).mono ?_; rintro e w9 ⟨rfl, hb⟩; have G9 := hideIt (G2.out.trans (hb.mono G2.out.size)); clear hb HSA))
        go_ret
        exact ⟨rfl, HB0.out.trans (G9.out.mono HB0.out.size)⟩
      · have hg1 : binOp .gtr 3 (.int .i64 (l1.length : Int)) (.int .i64 12) = pure (.bool false) := by rw [binOp_gtr, decide_eq_false h12]
        have hl1 : l1.length ≤ 12 := by omega
        have HLE := hideIt (fun (W : World) (h : Below W0.heap.size W0 W) => HPG.out.left a0 A0 c0 W (HT.out.keep h) (HBC.out.keep h).cin HNM.out HS9.out l1 A1 c1 (by omega) ((HX.out.below h).wide h.size))
        by_cases hok : okX a0 l1.length = true ∧ dcX a0 l1 = true
        · have hz : leftZ (dcX a0) (okX a0 l1.length) l1 = ((leftN (dcX a0) l1 : Nat) : Int) := if_pos hok
          rw [hz] at HLE
          obtain ⟨m, n0, hvc, hN, hN9⟩ := okX_vc HS9.out hok.1
          have hpos : 0 < l1.length := by have := hvc.pos; omega
          have hlf : ¬ ((leftN (dcX a0) l1 : Nat) : Int) < 0 := by omega
          by_cases hgt : (rows.length : Int) > ((leftN (dcX a0) l1 : Nat) : Int)
          · have hg2 : binOp .gtr 3 (.int .i64 (rows.length : Int)) (.int .i64 ((leftN (dcX a0) l1 : Nat) : Int)) = pure (.bool true) := by rw [binOp_gtr, decide_eq_true hgt]
            clear hsm h12 hnd hok hz hvc hN hgt hl1 hN9 hpos
            generalize leftN (dcX a0) l1 = f at *
            go_enter Tryz.func4, Tryz.ntmps4
            go_wp2_with (first | (go_at_call 9; rw [← HWE.out]; refine HSM.out.mono ?_; rintro e w1 ⟨rfl, hb⟩; have G1 := hideIt hb; clear hb HSM) | (go_at_call 20; refine (HDI.out _ G1.out).mono ?_; rintro e w2 ⟨rfl, n2, rfl⟩; have G2 := hideIt (below_drewN G1.out n2); clear HDI) | (go_at_call 13; refine (HLE.out _ G2.out).mono ?_; rintro e w3 ⟨rfl, hb⟩; have G3 := hideIt (G2.out.trans (hb.mono G2.out.size)); clear hb HLE) | ((with_reducible refine at_load ?_); refine wpList_ldC (by kernel_rfl) (.tmp 3) rfl (p := w.heap.size) (c := c0) rfl (by first | exact (HBC.out.keep G2.out).box | (rw [← HWE.out]; exact HBC.out.box)) ?_) | (go_at_call 10; refine (HSA.out _ G3.out).mono ?_; rintro e w9 ⟨rfl, hb⟩; have G9 := hideIt (G3.out.trans (hb.mono G3.out.size)); clear hb HSA))
            go_ret
            exact ⟨rfl, HB0.out.trans (G9.out.mono HB0.out.size)⟩
          · have hg2 : binOp .gtr 3 (.int .i64 (rows.length : Int)) (.int .i64 ((leftN (dcX a0) l1 : Nat) : Int)) = pure (.bool false) := by rw [binOp_gtr, decide_eq_false hgt]
            have h4 : leftN (dcX a0) l1 ≤ 4 := left_le.1
            have hkeep := keeps hok.2 (T := lsN l1.length rows) (Nat.le_trans (lsN_len _ _) (by omega))
            have HMI := hideIt (fun (W : World) (h : Below W0.heap.size W0 W) => minus_any l1 rows (by omega) hpos (by omega) A1 c1 B2 cb2 W ((HX.out.below h).wide h.size) ((HXR.out.below h).wide h.size))
            have HDE := hideIt (fun (W : World) (h : Below W0.heap.size W0 W) (G : Option Addr) (cg : Nat) (hG : Sl W W.heap.size G 1 l1.length ((wo l1 (lsN l1.length rows)).map bl)) =>
              show Calls Tryz.prog 21 #[a0.v A0 c0, .slice G l1.length cg] W (fun e w' => e = .returned (.bool true) ∧ Below W.heap.size W w') by
                have := decodable_any a0 A0 c0 W (HT.out.keep h) (HBC.out.keep h).cin (wo l1 (lsN l1.length rows)) G cg (by rw [wo_len]; omega) (by rw [wo_len]; exact hG)
                rw [wo_len] at this
                rw [← hkeep]
                exact this)
            clear hsm h12 hnd hok hz hvc hN hgt hl1 hN9 hpos h4 hkeep
            generalize leftN (dcX a0) l1 = f at *
            go_enter Tryz.func4, Tryz.ntmps4
            go_wp2_with (first | (go_at_call 9; rw [← HWE.out]; refine HSM.out.mono ?_; rintro e w1 ⟨rfl, hb⟩; have G1 := hideIt hb; clear hb HSM) | (go_at_call 20; refine (HDI.out _ G1.out).mono ?_; rintro e w2 ⟨rfl, n2, rfl⟩; have G2 := hideIt (below_drewN G1.out n2); clear HDI) | (go_at_call 13; refine (HLE.out _ G2.out).mono ?_; rintro e w3 ⟨rfl, hb⟩; have G3 := hideIt (G2.out.trans (hb.mono G2.out.size)); clear hb HLE) | ((with_reducible refine at_load ?_); refine wpList_ldC (by kernel_rfl) (.tmp 3) rfl (p := w.heap.size) (c := c0) rfl (by first | exact (HBC.out.keep G2.out).box | (rw [← HWE.out]; exact HBC.out.box)) ?_))
            have HBHG3 := hideIt (HBC.out.keep G3.out).box
            refine loads_begin_n 9 [(8, fun W => Blk W w.heap.size 24 (a0.cs A0 c0))] rfl (by kernel_rfl) ?_
            have GD := hideIt G3.out.drew
            try simp only [Act.put]
            try simp only [List.setIfInBounds_toArray]
            try simp only [List.set_cons_succ]
            try simp only [List.set_cons_zero]
            refine wpAnyL_one (o := ⟨some 38, _, _, _, _, _⟩) 0 (by kernel_rfl) rfl (fun K hK => ?_)
            go_wp2_with (first | (go_at_call 10; refine (HSA.out _ GD.out).mono ?_; rintro e w9 ⟨rfl, hb⟩; have G9 := hideIt (GD.out.trans (hb.mono GD.out.size)); clear hb HSA))
            have HBHG9 := hideIt (HBC.out.keep G9.out).box
            refine hK _ _ (Hooks.add HBHG9.out (Hooks.nil _ _)) ?_
            clear hK K HBHG3
            try simp only [Act.put]
            try simp only [List.setIfInBounds_toArray]
            try simp only [List.set_cons_succ]
            try simp only [List.set_cons_zero]
            refine wpAnyL_move (oi := ⟨some 39, _, _, _, _, _⟩) 1 ?_ rfl (by kernel_rfl) (by kernel_rfl) (by kernel_rfl) (by kernel_rfl) (fun _ _ _ h => h) (by kernel_rfl) ?_ ((Hooks.add HBHG9.out (Hooks.nil _ _))) ?_
            rotate_left
            · intro W'; go_simp; first | done | with_reducible rfl
            try simp only [Act.put]
            try simp only [List.setIfInBounds_toArray]
            try simp only [List.set_cons_succ]
            try simp only [List.set_cons_zero]
            refine wpAnyL_take (oi := ⟨some 40, _, _, _, _, _⟩) 2 8 (a0.v A0 c0) _ rfl (by kernel_rfl) (by kernel_rfl) (by kernel_rfl) (by kernel_rfl) (by kernel_rfl) (by kernel_rfl) (.head _) (fun _ _ _ h => h) (by kernel_rfl) (fun W' hW' => exec_load_blk (cs := a0.cs A0 c0) rfl rfl hW' _ Tryz.underlying24 rfl isz5) (Hooks.add HBHG9.out (Hooks.nil _ _)) ?_
            try simp only [Act.put]
            try simp only [List.setIfInBounds_toArray]
            try simp only [List.set_cons_succ]
            try simp only [List.set_cons_zero]
            refine wpAnyL_move (oi := ⟨some 41, _, _, _, _, _⟩) 3 ?_ rfl (by kernel_rfl) (by kernel_rfl) (by kernel_rfl) (by kernel_rfl) (fun _ _ _ h => h) (by kernel_rfl) ?_ ((Hooks.add HBHG9.out (Hooks.nil _ _))) ?_
            rotate_left
            · intro W'; go_simp; first | done | with_reducible rfl
            try simp only [Act.put]
            try simp only [List.setIfInBounds_toArray]
            try simp only [List.set_cons_succ]
            try simp only [List.set_cons_zero]
            refine wpAnyL_move (oi := ⟨some 42, _, _, _, _, _⟩) 4 ?_ rfl (by kernel_rfl) (by kernel_rfl) (by kernel_rfl) (by kernel_rfl) (fun _ _ _ h => h) (by kernel_rfl) ?_ ((Hooks.add HBHG9.out (Hooks.nil _ _))) ?_
            rotate_left
            · intro W'; go_simp; first | done | with_reducible rfl
            try simp only [Act.put]
            try simp only [List.setIfInBounds_toArray]
            try simp only [List.set_cons_succ]
            try simp only [List.set_cons_zero]
            refine wpAnyL_one (o := ⟨some 43, _, _, _, _, _⟩) 5 (by kernel_rfl) rfl (fun K hK => ?_)
            go_wp2_with (first | (go_at_call 22; refine (HMI.out _ G9.out).mono ?_; rintro e w4 ⟨G4, cg4, rfl, ho4, hb⟩; have HS4 := hideIt (Sl.of_own ho4); have K4 := hideIt (G9.out.trans (hb.mono G9.out.size)); clear ho4 hb HMI))
            have HBHK4 := hideIt (HBC.out.keep K4.out).box
            refine hK _ _ (Hooks.add HBHK4.out (Hooks.nil _ _)) ?_
            clear hK K HBHG9
            try simp only [Act.put]
            try simp only [List.setIfInBounds_toArray]
            try simp only [List.set_cons_succ]
            try simp only [List.set_cons_zero]
            refine wpAnyL_one (o := ⟨some 44, _, _, _, _, _⟩) 6 (by kernel_rfl) rfl (fun K hK => ?_)
            go_wp2_with (first | (go_at_call 21; refine (HDE.out _ K4.out _ _ HS4.out).mono ?_; rintro e w5 ⟨rfl, hb⟩; have K5 := hideIt (K4.out.trans (hb.mono K4.out.size)); clear hb HDE))
            have HBHK5 := hideIt (HBC.out.keep K5.out).box
            refine hK _ _ (Hooks.add HBHK5.out (Hooks.nil _ _)) ?_
            clear hK K HBHK4
            try simp only [Act.put]
            try simp only [List.setIfInBounds_toArray]
            try simp only [List.set_cons_succ]
            try simp only [List.set_cons_zero]
            refine wpAnyL_move (oi := ⟨some 45, _, _, _, _, _⟩) 7 ?_ rfl (by kernel_rfl) (by kernel_rfl) (by kernel_rfl) (by kernel_rfl) (fun _ _ _ h => h) (by kernel_rfl) ?_ ((Hooks.add HBHK5.out (Hooks.nil _ _))) ?_
            rotate_left
            · intro W'; go_simp; first | done | with_reducible rfl
            try simp only [Act.put]
            try simp only [List.setIfInBounds_toArray]
            try simp only [List.set_cons_succ]
            try simp only [List.set_cons_zero]
            refine loads_tail 8 (by kernel_rfl) (by kernel_rfl) (by kernel_rfl) (by kernel_rfl) ?_
            simp only [List.drop_succ_cons, List.drop_zero]
            go_wp2_with fail
            go_ret
            exact ⟨rfl, HB0.out.trans (K5.out.mono HB0.out.size)⟩
        · have hz : leftZ (dcX a0) (okX a0 l1.length) l1 = -1 := if_neg hok
          rw [hz] at HLE
          clear hsm h12 hnd hok hz hl1
          go_enter Tryz.func4, Tryz.ntmps4
          go_wp2_with (first | (go_at_call 9; rw [← HWE.out]; refine HSM.out.mono ?_; rintro e w1 ⟨rfl, hb⟩; have G1 := hideIt hb; clear hb HSM) | (go_at_call 20; refine (HDI.out _ G1.out).mono ?_; rintro e w2 ⟨rfl, n2, rfl⟩; have G2 := hideIt (below_drewN G1.out n2); clear HDI) | (go_at_call 13; refine (HLE.out _ G2.out).mono ?_; rintro e w3 ⟨rfl, hb⟩; have G3 := hideIt (G2.out.trans (hb.mono G2.out.size)); clear hb HLE) | ((with_reducible refine at_load ?_); refine wpList_ldC (by kernel_rfl) (.tmp 3) rfl (p := w.heap.size) (c := c0) rfl (by first | exact (HBC.out.keep G2.out).box | (rw [← HWE.out]; exact HBC.out.box)) ?_) | (go_at_call 10; refine (HSA.out _ G3.out).mono ?_; rintro e w9 ⟨rfl, hb⟩; have G9 := hideIt (G3.out.trans (hb.mono G3.out.size)); clear hb HSA))
          go_ret
          exact ⟨rfl, HB0.out.trans (G9.out.mono HB0.out.size)⟩
    · rw [decide_eq_false hnd] at HDI
      clear hsm hnd
      go_enter Tryz.func4, Tryz.ntmps4
      go_wp2_with (first | (go_at_call 9; rw [← HWE.out]; refine HSM.out.mono ?_; rintro e w1 ⟨rfl, hb⟩; have G1 := hideIt hb; clear hb HSM) | (go_at_call 20; refine (HDI.out _ G1.out).mono ?_; rintro e w2 ⟨rfl, n2, rfl⟩; have G2 := hideIt (below_drewN G1.out n2); clear HDI) | ((with_reducible refine at_load ?_); refine wpList_ldC (by kernel_rfl) (.tmp 3) rfl (p := w.heap.size) (c := c0) rfl (by first | exact (HBC.out.keep G2.out).box | (rw [← HWE.out]; exact HBC.out.box)) ?_) | (go_at_call 10; refine (HSA.out _ G2.out).mono ?_; rintro e w9 ⟨rfl, hb⟩; have G9 := hideIt (G2.out.trans (hb.mono G2.out.size)); clear hb HSA))
      go_ret
      exact ⟨rfl, HB0.out.trans (G9.out.mono HB0.out.size)⟩
  · have hf : sm9B a0 = false := Bool.eq_false_iff.2 hsm
    rw [hf] at HSM
    clear hsm hf
    go_enter Tryz.func4, Tryz.ntmps4
    go_wp2_with (first | (go_at_call 9; rw [← HWE.out]; refine HSM.out.mono ?_; rintro e w1 ⟨rfl, hb⟩; have G1 := hideIt hb; clear hb HSM) | (go_at_call 20; refine (HDI.out _ G1.out).mono ?_; rintro e w2 ⟨rfl, n2, rfl⟩; have G2 := hideIt (below_drewN G1.out n2); clear HDI) | ((with_reducible refine at_load ?_); refine wpList_ldC (by kernel_rfl) (.tmp 3) rfl (p := w.heap.size) (c := c0) rfl (by first | exact (HBC.out.keep G2.out).box | (rw [← HWE.out]; exact HBC.out.box)) ?_) | (go_at_call 10; refine (HSA.out _ G2.out).mono ?_; rintro e w9 ⟨rfl, hb⟩; have G9 := hideIt (G2.out.trans (hb.mono G2.out.size)); clear hb HSA))
    go_ret
    exact ⟨rfl, HB0.out.trans (G9.out.mono HB0.out.size)⟩

end Go.Proofs.YtkfahoaiialndaaGreatDoor.distanceKeepsPromise
