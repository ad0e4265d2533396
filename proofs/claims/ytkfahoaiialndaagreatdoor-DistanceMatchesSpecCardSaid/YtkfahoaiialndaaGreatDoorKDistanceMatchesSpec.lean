/-
  The walk of the law: for every code, list of present units and list of racks the program answers as the reference.
-/
import Derived.Test.YtkfahoaiialndaaGreatDoorDstL
import Derived.Test.YtkfahoaiialndaaGreatDoorDstX
namespace Go.Proofs.YtkfahoaiialndaaGreatDoor.distanceMatchesSpec
open Go.RowKit
set_option linter.unusedVariables false

theorem fat_len (dc : List Bool → Bool) (ok : Bool) (hs : List Bool) : (fatZ dc ok hs).length ≤ 5 := by
  unfold fatZ
  split
  · cases h : ftl dc hs (leftN dc hs + 1) [] 0 with
    | none => simp
    | some l =>
      obtain ⟨S, e, h2, _⟩ := ftl_some h
      have := (left_le (dc := dc) (hs := hs)).1
      rw [List.nil_append] at e
      subst e
      show l.length ≤ 5
      omega
  · simp

set_option maxHeartbeats 1600000 in
set_option maxRecDepth 100000 in
theorem walk (a0 : Cd) (A0 : Option Addr) (c0 : Nat) (l1 : List Bool) (A1 : Option Addr) (c1 : Nat) (B2 : Option Addr) (cb2 : Nat) (rows : List Int) (w : World) (x0 : CIn w a0 A0) (n0 : a0.name.length ≤ 9223372036854775807) (x1 : Sl w w.heap.size A1 1 l1.length (l1.map bl)) (m1 : l1.length ≤ 9223372036854775807) (xr : Sl w w.heap.size B2 1 rows.length (rows.map iv)) (mr : rows.length ≤ cb2) (kr : cb2 ≤ maxLen) (T1 : Tabs w) (pg : Pg) :
    Calls Tryz.prog 3 #[a0.v A0 c0, .slice A1 l1.length c1, .slice B2 rows.length cb2] w fun e w' => e = .returned (.bool true) ∧ Below w.heap.size w w' := by
  obtain ⟨W0, hW0⟩ : ∃ W, W = w.alloc (.cells (a0.cs A0 c0).toArray 24) := ⟨_, rfl⟩
  have hb0 : Below w.heap.size w W0 := by rw [hW0]; exact below_new w _
  have HB0 := hideIt hb0
  have HBC := hideIt (show BC W0 w.heap.size a0 A0 c0 by rw [hW0]; exact BC.new c0 x0)
  have HT := hideIt (T1.keep hb0)
  have HX := hideIt ((x1.below hb0).wide hb0.size)
  have HXR := hideIt ((xr.below hb0).wide hb0.size)
  have HWE := hideIt hW0
  have HPG := hideIt pg
  have HSA := hideIt (fun (W : World) (h : Below W0.heap.size W0 W) => sanity_any HPG.out W (HT.out.keep h))
  have HSM := hideIt (small9_any a0 A0 c0 W0 HBC.out.cin)
  have hnot := not_b
  have HNM := hideIt n0
  clear hW0 hb0 x0 x1 xr T1 m1 mr kr pg n0
  by_cases hsm : sm9B a0 = true
  · rw [hsm] at HSM
    have HS9 := hideIt (sm9B_sm hsm)
    by_cases h12 : (l1.length : Int) > 12
    · have hg1 : binOp .gtr 3 (.int .i64 (l1.length : Int)) (.int .i64 12) = pure (.bool true) := by rw [binOp_gtr, decide_eq_true h12]
      clear hsm h12
      go_enter Tryz.func3, Tryz.ntmps3
      go_wp2_with (first | (go_at_call 9; rw [← HWE.out]; refine HSM.out.mono ?_; rintro e w1 ⟨rfl, hb⟩; have G1 := hideIt hb; clear hb HSM) | ((with_reducible refine at_load ?_); refine wpList_ldC (by kernel_rfl) (.tmp 3) rfl (p := w.heap.size) (c := c0) rfl (by rw [← HWE.out]; exact HBC.out.box) ?_) | (go_at_call 10; refine (HSA.out _ G1.out).mono ?_; rintro e w2 ⟨rfl, hb⟩; have G2 := hideIt (G1.out.trans (hb.mono G1.out.size)); clear hb HSA))
      go_ret
      exact ⟨rfl, HB0.out.trans (G2.out.mono HB0.out.size)⟩
    · have hg1 : binOp .gtr 3 (.int .i64 (l1.length : Int)) (.int .i64 12) = pure (.bool false) := by rw [binOp_gtr, decide_eq_false h12]
      by_cases r12 : (rows.length : Int) > 12
      · have hg2 : binOp .gtr 3 (.int .i64 (rows.length : Int)) (.int .i64 12) = pure (.bool true) := by rw [binOp_gtr, decide_eq_true r12]
        clear hsm h12 r12
        go_enter Tryz.func3, Tryz.ntmps3
        go_wp2_with (first | (go_at_call 9; rw [← HWE.out]; refine HSM.out.mono ?_; rintro e w1 ⟨rfl, hb⟩; have G1 := hideIt hb; clear hb HSM) | ((with_reducible refine at_load ?_); refine wpList_ldC (by kernel_rfl) (.tmp 3) rfl (p := w.heap.size) (c := c0) rfl (by rw [← HWE.out]; exact HBC.out.box) ?_) | (go_at_call 10; refine (HSA.out _ G1.out).mono ?_; rintro e w2 ⟨rfl, hb⟩; have G2 := hideIt (G1.out.trans (hb.mono G1.out.size)); clear hb HSA))
        go_ret
        exact ⟨rfl, HB0.out.trans (G2.out.mono HB0.out.size)⟩
      · have hg2 : binOp .gtr 3 (.int .i64 (rows.length : Int)) (.int .i64 12) = pure (.bool false) := by rw [binOp_gtr, decide_eq_false r12]
        have hl1 : l1.length ≤ 12 := by omega
        have hr1 : rows.length ≤ 12 := by omega
        have HP1 := hideIt (fun (W : World) (h : Below W0.heap.size W0 W) => HPG.out.losses a0 A0 c0 W (HT.out.keep h) (HBC.out.keep h).cin HNM.out HS9.out)
        have HR1 := hideIt (fun (W : World) (h : Below W0.heap.size W0 W) => rlosses_any a0 A0 c0 W (HBC.out.keep h).cin HNM.out HS9.out)
        have HP2 := hideIt (fun (W : World) (h : Below W0.heap.size W0 W) => HPG.out.left a0 A0 c0 W (HT.out.keep h) (HBC.out.keep h).cin HNM.out HS9.out l1 A1 c1 (by omega) ((HX.out.below h).wide h.size))
        have HR2 := hideIt (fun (W : World) (h : Below W0.heap.size W0 W) => rleft_any a0 A0 c0 W (HBC.out.keep h).cin HNM.out HS9.out l1 (by omega) A1 c1 ((HX.out.below h).wide h.size))
        have HP3 := hideIt (fun (W : World) (h : Below W0.heap.size W0 W) => HPG.out.fatal a0 A0 c0 W (HT.out.keep h) (HBC.out.keep h).cin HNM.out HS9.out l1 A1 c1 (by omega) ((HX.out.below h).wide h.size))
        have HR3 := hideIt (fun (W : World) (h : Below W0.heap.size W0 W) => rfatal9_any a0 A0 c0 W (HBC.out.keep h).cin HNM.out HS9.out l1 (by omega) A1 c1 ((HX.out.below h).wide h.size))
        have HP4 := hideIt (fun (W : World) (h : Below W0.heap.size W0 W) => HPG.out.racks a0 A0 c0 W (HT.out.keep h) (HBC.out.keep h).cin HNM.out HS9.out rows B2 cb2 (by omega) ((HXR.out.below h).wide h.size))
        have HR4 := hideIt (fun (W : World) (h : Below W0.heap.size W0 W) => rracks_any a0 A0 c0 W (HBC.out.keep h).cin HNM.out HS9.out rows (by omega) B2 cb2 ((HXR.out.below h).wide h.size))
        have HFL := hideIt (fat_len (dcX a0) (okX a0 l1.length) l1)
        generalize leftZ (dcX a0) (okX a0 (wdN a0)) (List.replicate (wdN a0) true) = z1 at *
        generalize leftZ (dcX a0) (okX a0 l1.length) l1 = z2 at *
        generalize fatZ (dcX a0) (okX a0 l1.length) l1 = fl at *
        generalize racksZ (dcX a0) (okX a0 rows.length) rows = z4 at *
        have HIT := hideIt (fun (W : World) (F F' : Option Addr) (c c' : Nat) (h : Sl W W.heap.size F 1 fl.length ((nI fl).map iv)) (h' : Sl W W.heap.size F' 1 fl.length ((nI fl).map iv)) => show Calls Tryz.prog 15 #[.slice F fl.length c, .slice F' fl.length c'] W (fun e w' => e = .returned (.bool true) ∧ Below W.heap.size W w') by
          have := ints_any (nI fl) (nI fl) F F' c c' W (by rw [nI_len]; exact h) (by rw [nI_len]; exact h') (by rw [nI_len]; have := HFL.out; omega)
          rw [nI_len, decide_eq_true rfl] at this
          refine this.mono ?_
          rintro e w' ⟨rfl, n, rfl⟩
          exact ⟨rfl, below_drewN (Below.refl _ _) n⟩)
        have q1 : binOp .eql 3 (.int .i64 z1) (.int .i64 z1) = pure (.bool true) := by rw [i_eql, decide_eq_true rfl]
        have q2 : binOp .eql 3 (.int .i64 z2) (.int .i64 z2) = pure (.bool true) := by rw [i_eql, decide_eq_true rfl]
        have q4 : binOp .eql 3 (.int .i64 z4) (.int .i64 z4) = pure (.bool true) := by rw [i_eql, decide_eq_true rfl]
        clear hsm h12 r12 hl1 hr1 HS9 HPG HNM HT HX HXR HFL
        go_enter Tryz.func3, Tryz.ntmps3
        go_wp2_with (first | (go_at_call 9; rw [← HWE.out]; refine HSM.out.mono ?_; rintro e w1 ⟨rfl, hb⟩; have G1 := hideIt hb; clear hb HSM) | ((with_reducible refine at_load ?_); refine wpList_ldC (by kernel_rfl) (.tmp 3) rfl (p := w.heap.size) (c := c0) rfl (by rw [← HWE.out]; exact HBC.out.box) ?_))
        have HBHG1 := hideIt (HBC.out.keep G1.out).box
        refine loads_begin_n 36 [(35, fun W => Blk W w.heap.size 24 (a0.cs A0 c0))] rfl (by kernel_rfl) ?_
        have GD := hideIt G1.out.drew
        try simp only [Act.put]
        try simp only [List.setIfInBounds_toArray]
        try simp only [List.set_cons_succ]
        try simp only [List.set_cons_zero]
        refine wpAnyL_one (o := ⟨some 23, _, _, _, _, _⟩) 0 (by kernel_rfl) rfl (fun K hK => ?_)
        go_wp2_with (first | (go_at_call 10; refine (HSA.out _ G1.out.drew).mono ?_; rintro e w2 ⟨rfl, hb⟩; have G2 := hideIt (G1.out.drew.trans (hb.mono G1.out.drew.size)); clear hb HSA))
        have HBHG2 := hideIt (HBC.out.keep G2.out).box
        refine hK _ _ (Hooks.add HBHG2.out (Hooks.nil _ _)) ?_
        clear hK K HBHG1
        try simp only [Act.put]
        try simp only [List.setIfInBounds_toArray]
        try simp only [List.set_cons_succ]
        try simp only [List.set_cons_zero]
        refine wpAnyL_move (oi := ⟨some 24, _, _, _, _, _⟩) 1 ?_ rfl (by kernel_rfl) (by kernel_rfl) (by kernel_rfl) (by kernel_rfl) (fun _ _ _ h => h) (by kernel_rfl) ?_ ((Hooks.add HBHG2.out (Hooks.nil _ _))) ?_
        rotate_left
        · intro W'; go_simp; first | done | with_reducible rfl
        try simp only [Act.put]
        try simp only [List.setIfInBounds_toArray]
        try simp only [List.set_cons_succ]
        try simp only [List.set_cons_zero]
        refine wpAnyL_take (oi := ⟨some 25, _, _, _, _, _⟩) 2 35 (a0.v A0 c0) _ rfl (by kernel_rfl) (by kernel_rfl) (by kernel_rfl) (by kernel_rfl) (by kernel_rfl) (by kernel_rfl) (.head _) (fun _ _ _ h => h) (by kernel_rfl) (fun W' hW' => exec_load_blk (cs := a0.cs A0 c0) rfl rfl hW' _ Tryz.underlying24 rfl isz5) (Hooks.add HBHG2.out (Hooks.nil _ _)) ?_
        try simp only [Act.put]
        try simp only [List.setIfInBounds_toArray]
        try simp only [List.set_cons_succ]
        try simp only [List.set_cons_zero]
        refine wpAnyL_take (oi := ⟨some 27, _, _, _, _, _⟩) 4 35 (a0.v A0 c0) _ rfl (by kernel_rfl) (by kernel_rfl) (by kernel_rfl) (by kernel_rfl) (by kernel_rfl) (by kernel_rfl) (.head _) (fun _ _ _ h => h) (by kernel_rfl) (fun W' hW' => exec_load_blk (cs := a0.cs A0 c0) rfl rfl hW' _ Tryz.underlying24 rfl isz5) (Hooks.add HBHG2.out (Hooks.nil _ _)) ?_
        try simp only [Act.put]
        try simp only [List.setIfInBounds_toArray]
        try simp only [List.set_cons_succ]
        try simp only [List.set_cons_zero]
        refine wpAnyL_one (o := ⟨some 26, _, _, _, _, _⟩) 3 (by kernel_rfl) rfl (fun K hK => ?_)
        go_wp2_with (first | (go_at_call 11; refine (HP1.out _ G2.out).mono ?_; rintro e w3 ⟨rfl, hb⟩; have Kw3 := hideIt (G2.out.trans (hb.mono G2.out.size)); clear hb HP1))
        have HBHKw3 := hideIt (HBC.out.keep Kw3.out).box
        refine hK _ _ (Hooks.add HBHKw3.out (Hooks.nil _ _)) ?_
        clear hK K HBHG2
        try simp only [Act.put]
        try simp only [List.setIfInBounds_toArray]
        try simp only [List.set_cons_succ]
        try simp only [List.set_cons_zero]
        refine wpAnyL_one (o := ⟨some 28, _, _, _, _, _⟩) 5 (by kernel_rfl) rfl (fun K hK => ?_)
        go_wp2_with (first | (go_at_call 12; refine (HR1.out _ Kw3.out).mono ?_; rintro e w4 ⟨rfl, hb⟩; have Kw4 := hideIt (Kw3.out.trans (hb.mono Kw3.out.size)); clear hb HR1))
        have HBHKw4 := hideIt (HBC.out.keep Kw4.out).box
        refine hK _ _ (Hooks.add HBHKw4.out (Hooks.nil _ _)) ?_
        clear hK K HBHKw3
        try simp only [Act.put]
        try simp only [List.setIfInBounds_toArray]
        try simp only [List.set_cons_succ]
        try simp only [List.set_cons_zero]
        refine wpAnyL_move (oi := ⟨some 29, _, _, _, _, _⟩) 6 ?_ rfl (by kernel_rfl) (by kernel_rfl) (by kernel_rfl) (by kernel_rfl) (fun _ _ _ h => h) (by kernel_rfl) ?_ ((Hooks.add HBHKw4.out (Hooks.nil _ _))) ?_
        rotate_left
        · intro W'; go_simp; first | done | with_reducible rfl
        try simp only [Act.put]
        try simp only [List.setIfInBounds_toArray]
        try simp only [List.set_cons_succ]
        try simp only [List.set_cons_zero]
        refine wpAnyL_move (oi := ⟨some 30, _, _, _, _, _⟩) 7 ?_ rfl (by kernel_rfl) (by kernel_rfl) (by kernel_rfl) (by kernel_rfl) (fun _ _ _ h => h) (by kernel_rfl) ?_ ((Hooks.add HBHKw4.out (Hooks.nil _ _))) ?_
        rotate_left
        · intro W'; go_simp; first | done | with_reducible rfl
        try simp only [Act.put]
        try simp only [List.setIfInBounds_toArray]
        try simp only [List.set_cons_succ]
        try simp only [List.set_cons_zero]
        refine wpAnyL_move (oi := ⟨some 31, _, _, _, _, _⟩) 8 ?_ rfl (by kernel_rfl) (by kernel_rfl) (by kernel_rfl) (by kernel_rfl) (fun _ _ _ h => h) (by kernel_rfl) ?_ ((Hooks.add HBHKw4.out (Hooks.nil _ _))) ?_
        rotate_left
        · intro W'; go_simp; first | done | with_reducible rfl
        try simp only [Act.put]
        try simp only [List.setIfInBounds_toArray]
        try simp only [List.set_cons_succ]
        try simp only [List.set_cons_zero]
        refine wpAnyL_take (oi := ⟨some 32, _, _, _, _, _⟩) 9 35 (a0.v A0 c0) _ rfl (by kernel_rfl) (by kernel_rfl) (by kernel_rfl) (by kernel_rfl) (by kernel_rfl) (by kernel_rfl) (.head _) (fun _ _ _ h => h) (by kernel_rfl) (fun W' hW' => exec_load_blk (cs := a0.cs A0 c0) rfl rfl hW' _ Tryz.underlying24 rfl isz5) (Hooks.add HBHKw4.out (Hooks.nil _ _)) ?_
        try simp only [Act.put]
        try simp only [List.setIfInBounds_toArray]
        try simp only [List.set_cons_succ]
        try simp only [List.set_cons_zero]
        refine wpAnyL_take (oi := ⟨some 35, _, _, _, _, _⟩) 12 35 (a0.v A0 c0) _ rfl (by kernel_rfl) (by kernel_rfl) (by kernel_rfl) (by kernel_rfl) (by kernel_rfl) (by kernel_rfl) (.head _) (fun _ _ _ h => h) (by kernel_rfl) (fun W' hW' => exec_load_blk (cs := a0.cs A0 c0) rfl rfl hW' _ Tryz.underlying24 rfl isz5) (Hooks.add HBHKw4.out (Hooks.nil _ _)) ?_
        try simp only [Act.put]
        try simp only [List.setIfInBounds_toArray]
        try simp only [List.set_cons_succ]
        try simp only [List.set_cons_zero]
        refine wpAnyL_move (oi := ⟨some 33, _, _, _, _, _⟩) 10 ?_ rfl (by kernel_rfl) (by kernel_rfl) (by kernel_rfl) (by kernel_rfl) (fun _ _ _ h => h) (by kernel_rfl) ?_ ((Hooks.add HBHKw4.out (Hooks.nil _ _))) ?_
        rotate_left
        · intro W'; go_simp; first | done | with_reducible rfl
        try simp only [Act.put]
        try simp only [List.setIfInBounds_toArray]
        try simp only [List.set_cons_succ]
        try simp only [List.set_cons_zero]
        refine wpAnyL_move (oi := ⟨some 36, _, _, _, _, _⟩) 13 ?_ rfl (by kernel_rfl) (by kernel_rfl) (by kernel_rfl) (by kernel_rfl) (fun _ _ _ h => h) (by kernel_rfl) ?_ ((Hooks.add HBHKw4.out (Hooks.nil _ _))) ?_
        rotate_left
        · intro W'; go_simp; first | done | with_reducible rfl
        try simp only [Act.put]
        try simp only [List.setIfInBounds_toArray]
        try simp only [List.set_cons_succ]
        try simp only [List.set_cons_zero]
        refine wpAnyL_one (o := ⟨some 34, _, _, _, _, _⟩) 11 (by kernel_rfl) rfl (fun K hK => ?_)
        go_wp2_with (first | (go_at_call 13; refine (HP2.out _ Kw4.out).mono ?_; rintro e w5 ⟨rfl, hb⟩; have Kw5 := hideIt (Kw4.out.trans (hb.mono Kw4.out.size)); clear hb HP2))
        have HBHKw5 := hideIt (HBC.out.keep Kw5.out).box
        refine hK _ _ (Hooks.add HBHKw5.out (Hooks.nil _ _)) ?_
        clear hK K HBHKw4
        try simp only [Act.put]
        try simp only [List.setIfInBounds_toArray]
        try simp only [List.set_cons_succ]
        try simp only [List.set_cons_zero]
        refine wpAnyL_one (o := ⟨some 37, _, _, _, _, _⟩) 14 (by kernel_rfl) rfl (fun K hK => ?_)
        go_wp2_with (first | (go_at_call 14; refine (HR2.out _ Kw5.out).mono ?_; rintro e w6 ⟨rfl, hb⟩; have Kw6 := hideIt (Kw5.out.trans (hb.mono Kw5.out.size)); clear hb HR2))
        have HBHKw6 := hideIt (HBC.out.keep Kw6.out).box
        refine hK _ _ (Hooks.add HBHKw6.out (Hooks.nil _ _)) ?_
        clear hK K HBHKw5
        try simp only [Act.put]
        try simp only [List.setIfInBounds_toArray]
        try simp only [List.set_cons_succ]
        try simp only [List.set_cons_zero]
        refine wpAnyL_move (oi := ⟨some 38, _, _, _, _, _⟩) 15 ?_ rfl (by kernel_rfl) (by kernel_rfl) (by kernel_rfl) (by kernel_rfl) (fun _ _ _ h => h) (by kernel_rfl) ?_ ((Hooks.add HBHKw6.out (Hooks.nil _ _))) ?_
        rotate_left
        · intro W'; go_simp; first | done | with_reducible rfl
        try simp only [Act.put]
        try simp only [List.setIfInBounds_toArray]
        try simp only [List.set_cons_succ]
        try simp only [List.set_cons_zero]
        refine wpAnyL_move (oi := ⟨some 39, _, _, _, _, _⟩) 16 ?_ rfl (by kernel_rfl) (by kernel_rfl) (by kernel_rfl) (by kernel_rfl) (fun _ _ _ h => h) (by kernel_rfl) ?_ ((Hooks.add HBHKw6.out (Hooks.nil _ _))) ?_
        rotate_left
        · intro W'; go_simp; first | done | with_reducible rfl
        try simp only [Act.put]
        try simp only [List.setIfInBounds_toArray]
        try simp only [List.set_cons_succ]
        try simp only [List.set_cons_zero]
        refine wpAnyL_move (oi := ⟨some 40, _, _, _, _, _⟩) 17 ?_ rfl (by kernel_rfl) (by kernel_rfl) (by kernel_rfl) (by kernel_rfl) (fun _ _ _ h => h) (by kernel_rfl) ?_ ((Hooks.add HBHKw6.out (Hooks.nil _ _))) ?_
        rotate_left
        · intro W'; go_simp; first | done | with_reducible rfl
        try simp only [Act.put]
        try simp only [List.setIfInBounds_toArray]
        try simp only [List.set_cons_succ]
        try simp only [List.set_cons_zero]
        refine wpAnyL_take (oi := ⟨some 41, _, _, _, _, _⟩) 18 35 (a0.v A0 c0) _ rfl (by kernel_rfl) (by kernel_rfl) (by kernel_rfl) (by kernel_rfl) (by kernel_rfl) (by kernel_rfl) (.head _) (fun _ _ _ h => h) (by kernel_rfl) (fun W' hW' => exec_load_blk (cs := a0.cs A0 c0) rfl rfl hW' _ Tryz.underlying24 rfl isz5) (Hooks.add HBHKw6.out (Hooks.nil _ _)) ?_
        try simp only [Act.put]
        try simp only [List.setIfInBounds_toArray]
        try simp only [List.set_cons_succ]
        try simp only [List.set_cons_zero]
        refine wpAnyL_take (oi := ⟨some 44, _, _, _, _, _⟩) 21 35 (a0.v A0 c0) _ rfl (by kernel_rfl) (by kernel_rfl) (by kernel_rfl) (by kernel_rfl) (by kernel_rfl) (by kernel_rfl) (.head _) (fun _ _ _ h => h) (by kernel_rfl) (fun W' hW' => exec_load_blk (cs := a0.cs A0 c0) rfl rfl hW' _ Tryz.underlying24 rfl isz5) (Hooks.add HBHKw6.out (Hooks.nil _ _)) ?_
        try simp only [Act.put]
        try simp only [List.setIfInBounds_toArray]
        try simp only [List.set_cons_succ]
        try simp only [List.set_cons_zero]
        refine wpAnyL_move (oi := ⟨some 42, _, _, _, _, _⟩) 19 ?_ rfl (by kernel_rfl) (by kernel_rfl) (by kernel_rfl) (by kernel_rfl) (fun _ _ _ h => h) (by kernel_rfl) ?_ ((Hooks.add HBHKw6.out (Hooks.nil _ _))) ?_
        rotate_left
        · intro W'; go_simp; first | done | with_reducible rfl
        try simp only [Act.put]
        try simp only [List.setIfInBounds_toArray]
        try simp only [List.set_cons_succ]
        try simp only [List.set_cons_zero]
        refine wpAnyL_move (oi := ⟨some 45, _, _, _, _, _⟩) 22 ?_ rfl (by kernel_rfl) (by kernel_rfl) (by kernel_rfl) (by kernel_rfl) (fun _ _ _ h => h) (by kernel_rfl) ?_ ((Hooks.add HBHKw6.out (Hooks.nil _ _))) ?_
        rotate_left
        · intro W'; go_simp; first | done | with_reducible rfl
        try simp only [Act.put]
        try simp only [List.setIfInBounds_toArray]
        try simp only [List.set_cons_succ]
        try simp only [List.set_cons_zero]
        refine wpAnyL_one (o := ⟨some 43, _, _, _, _, _⟩) 20 (by kernel_rfl) rfl (fun K hK => ?_)
        go_wp2_with (first | (go_at_call 16; refine (HP3.out _ Kw6.out).mono ?_; rintro e w7 ⟨F7, cf7, rfl, hs7, hb⟩; have HS7 := hideIt hs7; have Kw7 := hideIt (Kw6.out.trans (hb.mono Kw6.out.size)); clear hs7 hb HP3))
        have HBHKw7 := hideIt (HBC.out.keep Kw7.out).box
        refine hK _ _ (Hooks.add HBHKw7.out (Hooks.nil _ _)) ?_
        clear hK K HBHKw6
        try simp only [Act.put]
        try simp only [List.setIfInBounds_toArray]
        try simp only [List.set_cons_succ]
        try simp only [List.set_cons_zero]
        refine wpAnyL_one (o := ⟨some 46, _, _, _, _, _⟩) 23 (by kernel_rfl) rfl (fun K hK => ?_)
        go_wp2_with (first | (go_at_call 17; refine (HR3.out _ Kw7.out).mono ?_; rintro e w8 ⟨F8, cf8, rfl, hs8, hb⟩; have HS8 := hideIt hs8; have HT7 := hideIt ((HS7.out.below hb).wide hb.size); have Kw8 := hideIt (Kw7.out.trans (hb.mono Kw7.out.size)); clear hs8 hb HR3))
        have HBHKw8 := hideIt (HBC.out.keep Kw8.out).box
        refine hK _ _ (Hooks.add HBHKw8.out (Hooks.nil _ _)) ?_
        clear hK K HBHKw7
        try simp only [Act.put]
        try simp only [List.setIfInBounds_toArray]
        try simp only [List.set_cons_succ]
        try simp only [List.set_cons_zero]
        refine wpAnyL_one (o := ⟨some 47, _, _, _, _, _⟩) 24 (by kernel_rfl) rfl (fun K hK => ?_)
        go_wp2_with (first | (go_at_call 15; refine (HIT.out _ _ _ _ _ HT7.out HS8.out).mono ?_; rintro e w9 ⟨rfl, hb⟩; have Kw9 := hideIt (Kw8.out.trans (hb.mono Kw8.out.size)); clear hb))
        have HBHKw9 := hideIt (HBC.out.keep Kw9.out).box
        refine hK _ _ (Hooks.add HBHKw9.out (Hooks.nil _ _)) ?_
        clear hK K HBHKw8
        try simp only [Act.put]
        try simp only [List.setIfInBounds_toArray]
        try simp only [List.set_cons_succ]
        try simp only [List.set_cons_zero]
        refine wpAnyL_move (oi := ⟨some 48, _, _, _, _, _⟩) 25 ?_ rfl (by kernel_rfl) (by kernel_rfl) (by kernel_rfl) (by kernel_rfl) (fun _ _ _ h => h) (by kernel_rfl) ?_ ((Hooks.add HBHKw9.out (Hooks.nil _ _))) ?_
        rotate_left
        · intro W'; go_simp; first | done | with_reducible rfl
        try simp only [Act.put]
        try simp only [List.setIfInBounds_toArray]
        try simp only [List.set_cons_succ]
        try simp only [List.set_cons_zero]
        refine wpAnyL_move (oi := ⟨some 49, _, _, _, _, _⟩) 26 ?_ rfl (by kernel_rfl) (by kernel_rfl) (by kernel_rfl) (by kernel_rfl) (fun _ _ _ h => h) (by kernel_rfl) ?_ ((Hooks.add HBHKw9.out (Hooks.nil _ _))) ?_
        rotate_left
        · intro W'; go_simp; first | done | with_reducible rfl
        try simp only [Act.put]
        try simp only [List.setIfInBounds_toArray]
        try simp only [List.set_cons_succ]
        try simp only [List.set_cons_zero]
        refine wpAnyL_take (oi := ⟨some 50, _, _, _, _, _⟩) 27 35 (a0.v A0 c0) _ rfl (by kernel_rfl) (by kernel_rfl) (by kernel_rfl) (by kernel_rfl) (by kernel_rfl) (by kernel_rfl) (.head _) (fun _ _ _ h => h) (by kernel_rfl) (fun W' hW' => exec_load_blk (cs := a0.cs A0 c0) rfl rfl hW' _ Tryz.underlying24 rfl isz5) (Hooks.add HBHKw9.out (Hooks.nil _ _)) ?_
        try simp only [Act.put]
        try simp only [List.setIfInBounds_toArray]
        try simp only [List.set_cons_succ]
        try simp only [List.set_cons_zero]
        refine wpAnyL_take (oi := ⟨some 53, _, _, _, _, _⟩) 30 35 (a0.v A0 c0) _ rfl (by kernel_rfl) (by kernel_rfl) (by kernel_rfl) (by kernel_rfl) (by kernel_rfl) (by kernel_rfl) (.head _) (fun _ _ _ h => h) (by kernel_rfl) (fun W' hW' => exec_load_blk (cs := a0.cs A0 c0) rfl rfl hW' _ Tryz.underlying24 rfl isz5) (Hooks.add HBHKw9.out (Hooks.nil _ _)) ?_
        try simp only [Act.put]
        try simp only [List.setIfInBounds_toArray]
        try simp only [List.set_cons_succ]
        try simp only [List.set_cons_zero]
        refine wpAnyL_move (oi := ⟨some 51, _, _, _, _, _⟩) 28 ?_ rfl (by kernel_rfl) (by kernel_rfl) (by kernel_rfl) (by kernel_rfl) (fun _ _ _ h => h) (by kernel_rfl) ?_ ((Hooks.add HBHKw9.out (Hooks.nil _ _))) ?_
        rotate_left
        · intro W'; go_simp; first | done | with_reducible rfl
        try simp only [Act.put]
        try simp only [List.setIfInBounds_toArray]
        try simp only [List.set_cons_succ]
        try simp only [List.set_cons_zero]
        refine wpAnyL_move (oi := ⟨some 54, _, _, _, _, _⟩) 31 ?_ rfl (by kernel_rfl) (by kernel_rfl) (by kernel_rfl) (by kernel_rfl) (fun _ _ _ h => h) (by kernel_rfl) ?_ ((Hooks.add HBHKw9.out (Hooks.nil _ _))) ?_
        rotate_left
        · intro W'; go_simp; first | done | with_reducible rfl
        try simp only [Act.put]
        try simp only [List.setIfInBounds_toArray]
        try simp only [List.set_cons_succ]
        try simp only [List.set_cons_zero]
        refine wpAnyL_one (o := ⟨some 52, _, _, _, _, _⟩) 29 (by kernel_rfl) rfl (fun K hK => ?_)
        go_wp2_with (first | (go_at_call 18; refine (HP4.out _ Kw9.out).mono ?_; rintro e w10 ⟨rfl, hb⟩; have Kw10 := hideIt (Kw9.out.trans (hb.mono Kw9.out.size)); clear hb HP4))
        have HBHKw10 := hideIt (HBC.out.keep Kw10.out).box
        refine hK _ _ (Hooks.add HBHKw10.out (Hooks.nil _ _)) ?_
        clear hK K HBHKw9
        try simp only [Act.put]
        try simp only [List.setIfInBounds_toArray]
        try simp only [List.set_cons_succ]
        try simp only [List.set_cons_zero]
        refine wpAnyL_one (o := ⟨some 55, _, _, _, _, _⟩) 32 (by kernel_rfl) rfl (fun K hK => ?_)
        go_wp2_with (first | (go_at_call 19; refine (HR4.out _ Kw10.out).mono ?_; rintro e w11 ⟨rfl, hb⟩; have Kw11 := hideIt (Kw10.out.trans (hb.mono Kw10.out.size)); clear hb HR4))
        have HBHKw11 := hideIt (HBC.out.keep Kw11.out).box
        refine hK _ _ (Hooks.add HBHKw11.out (Hooks.nil _ _)) ?_
        clear hK K HBHKw10
        try simp only [Act.put]
        try simp only [List.setIfInBounds_toArray]
        try simp only [List.set_cons_succ]
        try simp only [List.set_cons_zero]
        refine wpAnyL_move (oi := ⟨some 56, _, _, _, _, _⟩) 33 ?_ rfl (by kernel_rfl) (by kernel_rfl) (by kernel_rfl) (by kernel_rfl) (fun _ _ _ h => h) (by kernel_rfl) ?_ ((Hooks.add HBHKw11.out (Hooks.nil _ _))) ?_
        rotate_left
        · intro W'; go_simp; first | done | with_reducible rfl
        try simp only [Act.put]
        try simp only [List.setIfInBounds_toArray]
        try simp only [List.set_cons_succ]
        try simp only [List.set_cons_zero]
        refine wpAnyL_move (oi := ⟨some 57, _, _, _, _, _⟩) 34 ?_ rfl (by kernel_rfl) (by kernel_rfl) (by kernel_rfl) (by kernel_rfl) (fun _ _ _ h => h) (by kernel_rfl) ?_ ((Hooks.add HBHKw11.out (Hooks.nil _ _))) ?_
        rotate_left
        · intro W'; go_simp; first | done | with_reducible rfl
        try simp only [Act.put]
        try simp only [List.setIfInBounds_toArray]
        try simp only [List.set_cons_succ]
        try simp only [List.set_cons_zero]
        refine loads_tail 35 (by kernel_rfl) (by kernel_rfl) (by kernel_rfl) (by kernel_rfl) ?_
        simp only [List.drop_succ_cons, List.drop_zero]
        go_wp2_with fail
        go_ret
        exact ⟨rfl, HB0.out.trans (Kw11.out.mono HB0.out.size)⟩
  · have hf : sm9B a0 = false := Bool.eq_false_iff.2 hsm
    rw [hf] at HSM
    clear hsm hf
    go_enter Tryz.func3, Tryz.ntmps3
    go_wp2_with (first | (go_at_call 9; rw [← HWE.out]; refine HSM.out.mono ?_; rintro e w1 ⟨rfl, hb⟩; have G1 := hideIt hb; clear hb HSM) | ((with_reducible refine at_load ?_); refine wpList_ldC (by kernel_rfl) (.tmp 3) rfl (p := w.heap.size) (c := c0) rfl (by rw [← HWE.out]; exact HBC.out.box) ?_) | (go_at_call 10; refine (HSA.out _ G1.out).mono ?_; rintro e w2 ⟨rfl, hb⟩; have G2 := hideIt (G1.out.trans (hb.mono G1.out.size)); clear hb HSA))
    go_ret
    exact ⟨rfl, HB0.out.trans (G2.out.mono HB0.out.size)⟩

end Go.Proofs.YtkfahoaiialndaaGreatDoor.distanceMatchesSpec
