/-
  The walk of the law: one more missing unit decreases Left by at most one and never increases it; with all units present Left is Losses.
-/
import Derived.Test.YtkfahoaiialndaaGreatDoorDstL
import Derived.Test.YtkfahoaiialndaaGreatDoorDstX
namespace Go.Proofs.YtkfahoaiialndaaGreatDoor.distanceSteps
open Go.RowKit
set_option linter.unusedVariables false

theorem z_bd (dc : List Bool → Bool) (ok : Bool) (hs : List Bool) : -1 ≤ leftZ dc ok hs ∧ leftZ dc ok hs ≤ 4 := by
  have := (left_le (dc := dc) (hs := hs)).1
  unfold leftZ
  split <;> omega
theorem steps_x {x : Cd} (hs9 : Sm9 x) {hs : List Bool} {u : Nat} (hu : u < hs.length) : leftZ (dcX x) (okX x hs.length) (wo hs [u]) ≤ leftZ (dcX x) (okX x hs.length) hs ∧ leftZ (dcX x) (okX x hs.length) hs - 1 ≤ leftZ (dcX x) (okX x hs.length) (wo hs [u]) := by
  cases hok : okX x hs.length with
  | true =>
    obtain ⟨m, n, hvc, hN, _⟩ := okX_vc hs9 hok
    exact steps (dcd_x hvc) hN true hu
  | false =>
    have h1 : ∀ a, leftZ (dcX x) false a = -1 := fun a => if_neg fun h => by cases h.1
    rw [h1, h1]
    omega
theorem lsN_one {N : Nat} {a : Int} (h : 0 ≤ a ∧ a < (N : Int)) : lsN N [a] = [a.toNat] := by
  unfold lsN
  rw [List.filter_cons, if_pos (decide_eq_true h)]
  rfl

set_option maxHeartbeats 1600000 in
set_option maxRecDepth 100000 in
theorem walk (a0 : Cd) (A0 : Option Addr) (c0 : Nat) (l1 : List Bool) (A1 : Option Addr) (c1 : Nat) (a2 : Int) (w : World) (x0 : CIn w a0 A0) (n0 : a0.name.length ≤ 9223372036854775807) (x1 : Sl w w.heap.size A1 1 l1.length (l1.map bl)) (m1 : l1.length ≤ 9223372036854775807) (w2 : -9223372036854775808 ≤ a2 ∧ a2 ≤ 9223372036854775807) (T1 : Tabs w) (pg : Pg) :
    Calls Tryz.prog 6 #[a0.v A0 c0, .slice A1 l1.length c1, .int .i64 a2] w fun e w' => e = .returned (.bool true) ∧ Below w.heap.size w w' := by
  obtain ⟨W0, hW0⟩ : ∃ W, W = w.alloc (.cells (a0.cs A0 c0).toArray 24) := ⟨_, rfl⟩
  have hb0 : Below w.heap.size w W0 := by rw [hW0]; exact below_new w _
  have HB0 := hideIt hb0
  have HBC := hideIt (show BC W0 w.heap.size a0 A0 c0 by rw [hW0]; exact BC.new c0 x0)
  have HT := hideIt (T1.keep hb0)
  have HX := hideIt ((x1.below hb0).wide hb0.size)
  have HWE := hideIt hW0
  have HPG := hideIt pg
  have HSA := hideIt (fun (W : World) (h : Below W0.heap.size W0 W) => sanity_any HPG.out W (HT.out.keep h))
  have HSM := hideIt (small9_any a0 A0 c0 W0 HBC.out.cin)
  have hnot := not_b
  have HNM := hideIt n0
  clear hW0 hb0 x0 x1 T1 m1 pg n0 w2
  by_cases hsm : sm9B a0 = true
  · rw [hsm] at HSM
    have HS9 := hideIt (sm9B_sm hsm)
    by_cases h12 : (l1.length : Int) > 12
    · have hg1 : binOp .gtr 3 (.int .i64 (l1.length : Int)) (.int .i64 12) = pure (.bool true) := by rw [binOp_gtr, decide_eq_true h12]
      clear hsm h12
      go_enter Tryz.func6, Tryz.ntmps6
      go_wp2_with (first | (go_at_call 9; rw [← HWE.out]; refine HSM.out.mono ?_; rintro e w1 ⟨rfl, hb⟩; have G1 := hideIt hb; clear hb HSM) | ((with_reducible refine at_load ?_); refine wpList_ldC (by kernel_rfl) (.tmp 3) rfl (p := w.heap.size) (c := c0) rfl (by first | exact HBX6.out | (rw [← HWE.out]; exact HBC.out.box)) ?_) | (go_at_call 10; refine (HSA.out _ G1.out).mono ?_; rintro e w9 ⟨rfl, hb⟩; have G9 := hideIt (G1.out.trans (hb.mono G1.out.size)); clear hb HSA))
      go_ret
      exact ⟨rfl, HB0.out.trans (G9.out.mono HB0.out.size)⟩
    · have hg1 : binOp .gtr 3 (.int .i64 (l1.length : Int)) (.int .i64 12) = pure (.bool false) := by rw [binOp_gtr, decide_eq_false h12]
      by_cases hu0 : a2 < 0
      · have hg2 : binOp .lss 3 (.int .i64 a2) (.int .i64 0) = pure (.bool true) := by rw [binOp_lss, decide_eq_true hu0]
        clear hsm h12 hu0
        go_enter Tryz.func6, Tryz.ntmps6
        go_wp2_with (first | (go_at_call 9; rw [← HWE.out]; refine HSM.out.mono ?_; rintro e w1 ⟨rfl, hb⟩; have G1 := hideIt hb; clear hb HSM) | ((with_reducible refine at_load ?_); refine wpList_ldC (by kernel_rfl) (.tmp 3) rfl (p := w.heap.size) (c := c0) rfl (by first | exact HBX6.out | (rw [← HWE.out]; exact HBC.out.box)) ?_) | (go_at_call 10; refine (HSA.out _ G1.out).mono ?_; rintro e w9 ⟨rfl, hb⟩; have G9 := hideIt (G1.out.trans (hb.mono G1.out.size)); clear hb HSA))
        go_ret
        exact ⟨rfl, HB0.out.trans (G9.out.mono HB0.out.size)⟩
      · have hg2 : binOp .lss 3 (.int .i64 a2) (.int .i64 0) = pure (.bool false) := by rw [binOp_lss, decide_eq_false hu0]
        by_cases hul : a2 ≥ (l1.length : Int)
        · have hg3 : binOp .geq 3 (.int .i64 a2) (.int .i64 (l1.length : Int)) = pure (.bool true) := by rw [binOp_geq, decide_eq_true hul]
          clear hsm h12 hu0 hul
          go_enter Tryz.func6, Tryz.ntmps6
          go_wp2_with (first | (go_at_call 9; rw [← HWE.out]; refine HSM.out.mono ?_; rintro e w1 ⟨rfl, hb⟩; have G1 := hideIt hb; clear hb HSM) | ((with_reducible refine at_load ?_); refine wpList_ldC (by kernel_rfl) (.tmp 3) rfl (p := w.heap.size) (c := c0) rfl (by first | exact HBX6.out | (rw [← HWE.out]; exact HBC.out.box)) ?_) | (go_at_call 10; refine (HSA.out _ G1.out).mono ?_; rintro e w9 ⟨rfl, hb⟩; have G9 := hideIt (G1.out.trans (hb.mono G1.out.size)); clear hb HSA))
          go_ret
          exact ⟨rfl, HB0.out.trans (G9.out.mono HB0.out.size)⟩
        · have hg3 : binOp .geq 3 (.int .i64 a2) (.int .i64 (l1.length : Int)) = pure (.bool false) := by rw [binOp_geq, decide_eq_false hul]
          have hl1 : l1.length ≤ 12 := by omega
          have hpos : 0 < l1.length := by omega
          have hul2 : a2.toNat < l1.length := by omega
          obtain ⟨t1, t2⟩ := steps_x HS9.out hul2
          obtain ⟨b1, b2⟩ := z_bd (dcX a0) (okX a0 l1.length) l1
          have hwn := HS9.out.wdn
          have hadd := add_sm9 HS9.out 3
          obtain ⟨N, hN⟩ : ∃ n, n = wdN a0 := ⟨_, rfl⟩
          rw [← hN] at hwn
          rw [← hwn.1] at hadd
          have hN9 := hwn.2
          have HP1 := hideIt (fun (W : World) (h : Below W0.heap.size W0 W) => HPG.out.losses a0 A0 c0 W (HT.out.keep h) (HBC.out.keep h).cin HNM.out HS9.out)
          rw [← hN] at HP1
          have HLE := hideIt (fun (W : World) (h : Below W0.heap.size W0 W) => HPG.out.left a0 A0 c0 W (HT.out.keep h) (HBC.out.keep h).cin HNM.out HS9.out l1 A1 c1 (by omega) ((HX.out.below h).wide h.size))
          have HMI := hideIt (fun (W : World) (h : Below W0.heap.size W0 W) => show Calls Tryz.prog 22 #[.slice A1 l1.length c1, .slice (some ⟨W.heap.size, 0, none⟩) 1 1] (W.alloc (.cells #[.int .i64 a2] 3)) (fun e w' => ∃ A c, e = .returned (.slice A l1.length c) ∧ Sl w' w'.heap.size A 1 l1.length ((wo l1 [a2.toNat]).map bl) ∧ Below W.heap.size W w') by
            have hb := below_new W (.cells #[.int .i64 a2] 3)
            have h2 := h.trans (hb.mono h.size)
            have := minus_any l1 [a2] (by omega) hpos (by simp) A1 c1 (some ⟨W.heap.size, 0, none⟩) 1 _ ((HX.out.below h2).wide h2.size) (sl_new9 W 3 [iv a2])
            rw [lsN_one ⟨by omega, by omega⟩] at this
            refine this.mono ?_
            rintro e w' ⟨A, c, rfl, ho, hb3⟩
            exact ⟨A, c, rfl, Sl.of_own ho, hb.trans (hb3.mono hb.size)⟩)
          have HL2 := hideIt (fun (W : World) (h : Below W0.heap.size W0 W) (G : Option Addr) (cg : Nat) (hG : Sl W W.heap.size G 1 l1.length ((wo l1 [a2.toNat]).map bl)) =>
            show Calls Tryz.prog 13 #[a0.v A0 c0, .slice G l1.length cg] W (fun e w' => e = .returned (.int .i64 (leftZ (dcX a0) (okX a0 l1.length) (wo l1 [a2.toNat]))) ∧ Below W.heap.size W w') by
              have := HPG.out.left a0 A0 c0 W (HT.out.keep h) (HBC.out.keep h).cin HNM.out HS9.out (wo l1 [a2.toNat]) G cg (by rw [wo_len]; omega) (by rw [wo_len]; exact hG)
              rw [wo_len] at this
              exact this)
          have HL3 := hideIt (fun (W : World) (h : Below W0.heap.size W0 W) (G : Option Addr) (cg : Nat) (hG : Sl W W.heap.size G 1 N ((List.replicate N true).map bl)) =>
            show Calls Tryz.prog 13 #[a0.v A0 c0, .slice G N cg] W (fun e w' => e = .returned (.int .i64 (leftZ (dcX a0) (okX a0 N) (List.replicate N true))) ∧ Below W.heap.size W w') by
              have := HPG.out.left a0 A0 c0 W (HT.out.keep h) (HBC.out.keep h).cin HNM.out HS9.out (List.replicate N true) G cg (by rw [List.length_replicate]; omega) (by rw [List.length_replicate]; exact hG)
              rw [List.length_replicate] at this
              exact this)
          generalize leftZ (dcX a0) (okX a0 N) (List.replicate N true) = z1 at *
          generalize leftZ (dcX a0) (okX a0 l1.length) l1 = z2 at *
          generalize leftZ (dcX a0) (okX a0 l1.length) (wo l1 [a2.toNat]) = z3 at *
          have e1 : binOp .leq 3 (.int .i64 z3) (.int .i64 z2) = pure (.bool true) := by rw [binOp_leq, decide_eq_true t1]
          have e2 : binOp .sub 3 (.int .i64 z2) (.int .i64 1) = pure (.int .i64 (z2 - 1)) := by
            show pure (Value.int .i64 (IntKind.i64.wrap (z2 - 1))) = _
            rw [IntWalk.i64_in _ (by omega)]
          have e3 : binOp .geq 3 (.int .i64 z3) (.int .i64 (z2 - 1)) = pure (.bool true) := by rw [binOp_geq, decide_eq_true (by omega)]
          have e4 : binOp .eql 3 (.int .i64 z1) (.int .i64 z1) = pure (.bool true) := by rw [i_eql, decide_eq_true rfl]
          generalize z2 - 1 = z4 at *
          clear hsm h12 hu0 hul hl1 hpos hul2 t1 t2 b1 b2 hwn hN HPG HNM HS9 HT HX
          go_enter Tryz.func6, Tryz.ntmps6
          go_wp2_with (first | (go_at_call 9; rw [← HWE.out]; refine HSM.out.mono ?_; rintro e w1 ⟨rfl, hb⟩; have G1 := hideIt hb; clear hb HSM) | ((with_reducible refine at_load ?_); refine wpList_ldC (by kernel_rfl) (.tmp 3) rfl (p := w.heap.size) (c := c0) rfl (by first | exact HBX6.out | (rw [← HWE.out]; exact HBC.out.box)) ?_))
          have HO1 := hideIt (World.ownsRow_nil w1 w1.heap.size 4 1)
          go_loopg [8, 9] N (fun gk s8 s9 wr => ∃ k : Nat, k + gk = N ∧ s9 = .int .i64 (k : Int) ∧ Aside (wr.ownsRow w1.heap.size 4 1 s8 k ((List.replicate k true).map bl)) ∧ Aside (Below w1.heap.size w1 wr))
          case atStart => exact ⟨0, by omega, rfl, HO1.out, Below.refl _ _⟩
          case round =>
            obtain ⟨k, hk, rfl, HW, HL⟩ := hrel
            obtain ⟨w6, rfl⟩ : ∃ x, x = wr := ⟨wr, rfl⟩
            have G6 := hideIt (G1.out.trans (HL.out.mono G1.out.size))
            have HBX6 := hideIt (HBC.out.keep G6.out).box
            have c2 := (HBC.out.keep G6.out).c2
            have c3 : w6.cell? ⟨w.heap.size, 3, none⟩ = some (.slice A0 a0.par.length c0) := HBX6.out.cell 3
            by_cases hlt : k < N
            · have hki : (k : Int) < (N : Int) := by omega
              have hin1 := inc_c 3 k (by omega)
              clear hlt
              go_wp2_with (first
                | ((with_reducible refine at_append ?_); refine wpList_apB (y := true) (n := k) (us := List.replicate k true) rfl (.tmp 42) (.tmp 43) rfl rfl HW.out rfl (by omega) HL.out.size ?_; intro v7 w7 HO7 HG7 HA7 HB7))
              go_roundg (gk - 1)
              case measure => omega
              case rel => exact ⟨k + 1, by omega, by go_num, by have := HO7.out; rwa [rep_snoc] at this, HL.out.trans HB7.out⟩
            · have hki : ¬ (k : Int) < (N : Int) := by omega
              obtain rfl : k = N := by omega
              obtain ⟨AL, cL, rfl, _, _⟩ := own_form HW.out
              have HSL := hideIt (fun (W : World) (h : Below w6.heap.size w6 W) => ((Sl.of_own HW.out).below h).wide h.size)
              clear hlt
              go_wp2_with (first
                | (go_at_call 13; refine (HLE.out _ G6.out).mono ?_; rintro e w7 ⟨rfl, hb⟩; have L7 := hideIt hb; have G7 := hideIt (G6.out.trans (hb.mono G6.out.size)); clear hb HLE)
                | ((with_reducible refine at_load ?_); refine wpList_ldC (by kernel_rfl) (.tmp 3) rfl (p := w.heap.size) (c := c0) rfl (by first | exact HBX6.out | (rw [← HWE.out]; exact HBC.out.box)) ?_))
              have HBHG7 := hideIt (HBC.out.keep G7.out).box
              refine loads_begin_n 7 [(6, fun W => Blk W w.heap.size 24 (a0.cs A0 c0))] rfl (by kernel_rfl) ?_
              have GD := hideIt G7.out.drew
              try simp only [Act.put]
              try simp only [List.setIfInBounds_toArray]
              try simp only [List.set_cons_succ]
              try simp only [List.set_cons_zero]
              have L7d := hideIt L7.out.drew
              refine wpAnyL_take (oi := ⟨some 48, _, _, _, _, _⟩) 0 6 (a0.v A0 c0) _ rfl (by kernel_rfl) (by kernel_rfl) (by kernel_rfl) (by kernel_rfl) (by kernel_rfl) (by kernel_rfl) (.head _) (fun _ _ _ h => h) (by kernel_rfl) (fun W' hW' => exec_load_blk (cs := a0.cs A0 c0) rfl rfl hW' _ Tryz.underlying24 rfl isz5) (Hooks.add HBHG7.out (Hooks.nil _ _)) ?_
              try simp only [Act.put]
              try simp only [List.setIfInBounds_toArray]
              try simp only [List.set_cons_succ]
              try simp only [List.set_cons_zero]
              refine wpAnyL_move (oi := ⟨some 49, _, _, _, _, _⟩) 1 ?_ rfl (by kernel_rfl) (by kernel_rfl) (by kernel_rfl) (by kernel_rfl) (fun _ _ _ h => h) (by kernel_rfl) ?_ ((Hooks.add HBHG7.out (Hooks.nil _ _))) ?_
              rotate_left
              · intro W'; go_simp; first | done | with_reducible rfl
              try simp only [Act.put]
              try simp only [List.setIfInBounds_toArray]
              try simp only [List.set_cons_succ]
              try simp only [List.set_cons_zero]
              refine wpAnyL_move (oi := ⟨some 50, _, _, _, _, _⟩) 2 ?_ rfl (by kernel_rfl) (by kernel_rfl) (by kernel_rfl) (by kernel_rfl) (fun _ _ _ h => h) (by kernel_rfl) ?_ ((Hooks.add HBHG7.out (Hooks.nil _ _))) ?_
              rotate_left
              · intro W'; go_simp; first | done | with_reducible rfl
              try simp only [Act.put]
              try simp only [List.setIfInBounds_toArray]
              try simp only [List.set_cons_succ]
              try simp only [List.set_cons_zero]
              refine wpAnyL_one (o := ⟨some 51, _, _, _, _, _⟩) 3 (by kernel_rfl) rfl (fun K hK => ?_)
              go_wp2_with fail
              have KB := hideIt (GD.out.trans ((below_new w7.drew (.cells #[.int .i64 a2] 3)).mono GD.out.size))
              have HBHKB := hideIt (HBC.out.keep KB.out).box
              refine hK _ _ (Hooks.add HBHKB.out (Hooks.nil _ _)) ?_
              clear hK K HBHG7
              try simp only [Act.put]
              try simp only [List.setIfInBounds_toArray]
              try simp only [List.set_cons_succ]
              try simp only [List.set_cons_zero]
              refine wpAnyL_one (o := ⟨some 52, _, _, _, _, _⟩) 4 (by kernel_rfl) rfl (fun K hK => ?_)
              go_wp2_with (first | (go_at_call 22; refine (HMI.out _ GD.out).mono ?_; rintro e w4 ⟨G4, cg4, rfl, hs4, hb⟩; have HS4 := hideIt hs4; have L4 := hideIt (L7d.out.trans (hb.mono L7d.out.size)); have K4 := hideIt (GD.out.trans (hb.mono GD.out.size)); clear hs4 hb HMI))
              have HBHK4 := hideIt (HBC.out.keep K4.out).box
              refine hK _ _ (Hooks.add HBHK4.out (Hooks.nil _ _)) ?_
              clear hK K HBHKB
              try simp only [Act.put]
              try simp only [List.setIfInBounds_toArray]
              try simp only [List.set_cons_succ]
              try simp only [List.set_cons_zero]
              refine wpAnyL_one (o := ⟨some 53, _, _, _, _, _⟩) 5 (by kernel_rfl) rfl (fun K hK => ?_)
              go_wp2_with (first | (go_at_call 13; refine (HL2.out _ K4.out _ _ HS4.out).mono ?_; rintro e w5 ⟨rfl, hb⟩; have L5 := hideIt (L4.out.trans (hb.mono L4.out.size)); have K5 := hideIt (K4.out.trans (hb.mono K4.out.size)); clear hb HL2))
              have HBHK5 := hideIt (HBC.out.keep K5.out).box
              refine hK _ _ (Hooks.add HBHK5.out (Hooks.nil _ _)) ?_
              clear hK K HBHK4
              try simp only [Act.put]
              try simp only [List.setIfInBounds_toArray]
              try simp only [List.set_cons_succ]
              try simp only [List.set_cons_zero]
              refine loads_tail 6 (by kernel_rfl) (by kernel_rfl) (by kernel_rfl) (by kernel_rfl) ?_
              simp only [List.drop_succ_cons, List.drop_zero]
              go_wp2_with fail
              clear GD
              have HBHK5 := hideIt (HBC.out.keep K5.out).box
              refine loads_begin_n 21 [(20, fun W => Blk W w.heap.size 24 (a0.cs A0 c0))] rfl (by kernel_rfl) ?_
              have GD := hideIt K5.out.drew
              try simp only [Act.put]
              try simp only [List.setIfInBounds_toArray]
              try simp only [List.set_cons_succ]
              try simp only [List.set_cons_zero]
              have L5d := hideIt L5.out.drew
              refine wpAnyL_one (o := ⟨some 54, _, _, _, _, _⟩) 0 (by kernel_rfl) rfl (fun K hK => ?_)
              go_wp2_with (first | (go_at_call 10; refine (HSA.out _ GD.out).mono ?_; rintro e w9 ⟨rfl, hb⟩; have L9 := hideIt (L5d.out.trans (hb.mono L5d.out.size)); have G9 := hideIt (GD.out.trans (hb.mono GD.out.size)); clear hb HSA))
              have HBHG9 := hideIt (HBC.out.keep G9.out).box
              refine hK _ _ (Hooks.add HBHG9.out (Hooks.nil _ _)) ?_
              clear hK K HBHK5
              try simp only [Act.put]
              try simp only [List.setIfInBounds_toArray]
              try simp only [List.set_cons_succ]
              try simp only [List.set_cons_zero]
              refine wpAnyL_move (oi := ⟨some 55, _, _, _, _, _⟩) 1 ?_ rfl (by kernel_rfl) (by kernel_rfl) (by kernel_rfl) (by kernel_rfl) (fun _ _ _ h => h) (by kernel_rfl) ?_ ((Hooks.add HBHG9.out (Hooks.nil _ _))) ?_
              rotate_left
              · intro W'; go_simp; first | done | with_reducible rfl
              try simp only [Act.put]
              try simp only [List.setIfInBounds_toArray]
              try simp only [List.set_cons_succ]
              try simp only [List.set_cons_zero]
              refine wpAnyL_move (oi := ⟨some 56, _, _, _, _, _⟩) 2 ?_ rfl (by kernel_rfl) (by kernel_rfl) (by kernel_rfl) (by kernel_rfl) (fun _ _ _ h => h) (by kernel_rfl) ?_ ((Hooks.add HBHG9.out (Hooks.nil _ _))) ?_
              rotate_left
              · intro W'; go_simp; first | done | with_reducible rfl
              try simp only [Act.put]
              try simp only [List.setIfInBounds_toArray]
              try simp only [List.set_cons_succ]
              try simp only [List.set_cons_zero]
              refine wpAnyL_move (oi := ⟨some 57, _, _, _, _, _⟩) 3 ?_ rfl (by kernel_rfl) (by kernel_rfl) (by kernel_rfl) (by kernel_rfl) (fun _ _ _ h => h) (by kernel_rfl) ?_ ((Hooks.add HBHG9.out (Hooks.nil _ _))) ?_
              rotate_left
              · intro W'; go_simp; first | done | with_reducible rfl
              try simp only [Act.put]
              try simp only [List.setIfInBounds_toArray]
              try simp only [List.set_cons_succ]
              try simp only [List.set_cons_zero]
              refine wpAnyL_move (oi := ⟨some 58, _, _, _, _, _⟩) 4 ?_ rfl (by kernel_rfl) (by kernel_rfl) (by kernel_rfl) (by kernel_rfl) (fun _ _ _ h => h) (by kernel_rfl) ?_ ((Hooks.add HBHG9.out (Hooks.nil _ _))) ?_
              rotate_left
              · intro W'; go_simp; first | done | with_reducible rfl
              try simp only [Act.put]
              try simp only [List.setIfInBounds_toArray]
              try simp only [List.set_cons_succ]
              try simp only [List.set_cons_zero]
              refine wpAnyL_move (oi := ⟨some 59, _, _, _, _, _⟩) 5 ?_ rfl (by kernel_rfl) (by kernel_rfl) (by kernel_rfl) (by kernel_rfl) (fun _ _ _ h => h) (by kernel_rfl) ?_ ((Hooks.add HBHG9.out (Hooks.nil _ _))) ?_
              rotate_left
              · intro W'; go_simp; first | done | with_reducible rfl
              try simp only [Act.put]
              try simp only [List.setIfInBounds_toArray]
              try simp only [List.set_cons_succ]
              try simp only [List.set_cons_zero]
              refine wpAnyL_move (oi := ⟨some 60, _, _, _, _, _⟩) 6 ?_ rfl (by kernel_rfl) (by kernel_rfl) (by kernel_rfl) (by kernel_rfl) (fun _ _ _ h => h) (by kernel_rfl) ?_ ((Hooks.add HBHG9.out (Hooks.nil _ _))) ?_
              rotate_left
              · intro W'; go_simp; first | done | with_reducible rfl
              try simp only [Act.put]
              try simp only [List.setIfInBounds_toArray]
              try simp only [List.set_cons_succ]
              try simp only [List.set_cons_zero]
              refine wpAnyL_move (oi := ⟨some 61, _, _, _, _, _⟩) 7 ?_ rfl (by kernel_rfl) (by kernel_rfl) (by kernel_rfl) (by kernel_rfl) (fun _ _ _ h => h) (by kernel_rfl) ?_ ((Hooks.add HBHG9.out (Hooks.nil _ _))) ?_
              rotate_left
              · intro W'; go_simp; first | done | with_reducible rfl
              try simp only [Act.put]
              try simp only [List.setIfInBounds_toArray]
              try simp only [List.set_cons_succ]
              try simp only [List.set_cons_zero]
              refine wpAnyL_move (oi := ⟨some 62, _, _, _, _, _⟩) 8 ?_ rfl (by kernel_rfl) (by kernel_rfl) (by kernel_rfl) (by kernel_rfl) (fun _ _ _ h => h) (by kernel_rfl) ?_ ((Hooks.add HBHG9.out (Hooks.nil _ _))) ?_
              rotate_left
              · intro W'; go_simp; first | done | with_reducible rfl
              try simp only [Act.put]
              try simp only [List.setIfInBounds_toArray]
              try simp only [List.set_cons_succ]
              try simp only [List.set_cons_zero]
              refine wpAnyL_move (oi := ⟨some 63, _, _, _, _, _⟩) 9 ?_ rfl (by kernel_rfl) (by kernel_rfl) (by kernel_rfl) (by kernel_rfl) (fun _ _ _ h => h) (by kernel_rfl) ?_ ((Hooks.add HBHG9.out (Hooks.nil _ _))) ?_
              rotate_left
              · intro W'; go_simp; first | done | with_reducible rfl
              try simp only [Act.put]
              try simp only [List.setIfInBounds_toArray]
              try simp only [List.set_cons_succ]
              try simp only [List.set_cons_zero]
              refine wpAnyL_move (oi := ⟨some 64, _, _, _, _, _⟩) 10 ?_ rfl (by kernel_rfl) (by kernel_rfl) (by kernel_rfl) (by kernel_rfl) (fun _ _ _ h => h) (by kernel_rfl) ?_ ((Hooks.add HBHG9.out (Hooks.nil _ _))) ?_
              rotate_left
              · intro W'; go_simp; first | done | with_reducible rfl
              try simp only [Act.put]
              try simp only [List.setIfInBounds_toArray]
              try simp only [List.set_cons_succ]
              try simp only [List.set_cons_zero]
              refine wpAnyL_move (oi := ⟨some 65, _, _, _, _, _⟩) 11 ?_ rfl (by kernel_rfl) (by kernel_rfl) (by kernel_rfl) (by kernel_rfl) (fun _ _ _ h => h) (by kernel_rfl) ?_ ((Hooks.add HBHG9.out (Hooks.nil _ _))) ?_
              rotate_left
              · intro W'; go_simp; first | done | with_reducible rfl
              try simp only [Act.put]
              try simp only [List.setIfInBounds_toArray]
              try simp only [List.set_cons_succ]
              try simp only [List.set_cons_zero]
              refine wpAnyL_move (oi := ⟨some 66, _, _, _, _, _⟩) 12 ?_ rfl (by kernel_rfl) (by kernel_rfl) (by kernel_rfl) (by kernel_rfl) (fun _ _ _ h => h) (by kernel_rfl) ?_ ((Hooks.add HBHG9.out (Hooks.nil _ _))) ?_
              rotate_left
              · intro W'; go_simp; first | done | with_reducible rfl
              try simp only [Act.put]
              try simp only [List.setIfInBounds_toArray]
              try simp only [List.set_cons_succ]
              try simp only [List.set_cons_zero]
              refine wpAnyL_take (oi := ⟨some 67, _, _, _, _, _⟩) 13 20 (a0.v A0 c0) _ rfl (by kernel_rfl) (by kernel_rfl) (by kernel_rfl) (by kernel_rfl) (by kernel_rfl) (by kernel_rfl) (.head _) (fun _ _ _ h => h) (by kernel_rfl) (fun W' hW' => exec_load_blk (cs := a0.cs A0 c0) rfl rfl hW' _ Tryz.underlying24 rfl isz5) (Hooks.add HBHG9.out (Hooks.nil _ _)) ?_
              try simp only [Act.put]
              try simp only [List.setIfInBounds_toArray]
              try simp only [List.set_cons_succ]
              try simp only [List.set_cons_zero]
              refine wpAnyL_take (oi := ⟨some 70, _, _, _, _, _⟩) 16 20 (a0.v A0 c0) _ rfl (by kernel_rfl) (by kernel_rfl) (by kernel_rfl) (by kernel_rfl) (by kernel_rfl) (by kernel_rfl) (.head _) (fun _ _ _ h => h) (by kernel_rfl) (fun W' hW' => exec_load_blk (cs := a0.cs A0 c0) rfl rfl hW' _ Tryz.underlying24 rfl isz5) (Hooks.add HBHG9.out (Hooks.nil _ _)) ?_
              try simp only [Act.put]
              try simp only [List.setIfInBounds_toArray]
              try simp only [List.set_cons_succ]
              try simp only [List.set_cons_zero]
              refine wpAnyL_move (oi := ⟨some 68, _, _, _, _, _⟩) 14 ?_ rfl (by kernel_rfl) (by kernel_rfl) (by kernel_rfl) (by kernel_rfl) (fun _ _ _ h => h) (by kernel_rfl) ?_ ((Hooks.add HBHG9.out (Hooks.nil _ _))) ?_
              rotate_left
              · intro W'; go_simp; first | done | with_reducible rfl
              try simp only [Act.put]
              try simp only [List.setIfInBounds_toArray]
              try simp only [List.set_cons_succ]
              try simp only [List.set_cons_zero]
              refine wpAnyL_one (o := ⟨some 69, _, _, _, _, _⟩) 15 (by kernel_rfl) rfl (fun K hK => ?_)
              go_wp2_with (first | (go_at_call 13; refine (HL3.out _ G9.out _ _ (HSL.out _ L9.out)).mono ?_; rintro e w10 ⟨rfl, hb⟩; have K7 := hideIt (G9.out.trans (hb.mono G9.out.size)); clear hb HL3))
              have HBHK7 := hideIt (HBC.out.keep K7.out).box
              refine hK _ _ (Hooks.add HBHK7.out (Hooks.nil _ _)) ?_
              clear hK K HBHG9
              try simp only [Act.put]
              try simp only [List.setIfInBounds_toArray]
              try simp only [List.set_cons_succ]
              try simp only [List.set_cons_zero]
              refine wpAnyL_one (o := ⟨some 71, _, _, _, _, _⟩) 17 (by kernel_rfl) rfl (fun K hK => ?_)
              go_wp2_with (first | (go_at_call 11; refine (HP1.out _ K7.out).mono ?_; rintro e w11 ⟨rfl, hb⟩; have K8 := hideIt (K7.out.trans (hb.mono K7.out.size)); clear hb HP1))
              have HBHK8 := hideIt (HBC.out.keep K8.out).box
              refine hK _ _ (Hooks.add HBHK8.out (Hooks.nil _ _)) ?_
              clear hK K HBHK7
              try simp only [Act.put]
              try simp only [List.setIfInBounds_toArray]
              try simp only [List.set_cons_succ]
              try simp only [List.set_cons_zero]
              refine wpAnyL_move (oi := ⟨some 72, _, _, _, _, _⟩) 18 ?_ rfl (by kernel_rfl) (by kernel_rfl) (by kernel_rfl) (by kernel_rfl) (fun _ _ _ h => h) (by kernel_rfl) ?_ ((Hooks.add HBHK8.out (Hooks.nil _ _))) ?_
              rotate_left
              · intro W'; go_simp; first | done | with_reducible rfl
              try simp only [Act.put]
              try simp only [List.setIfInBounds_toArray]
              try simp only [List.set_cons_succ]
              try simp only [List.set_cons_zero]
              refine wpAnyL_move (oi := ⟨some 73, _, _, _, _, _⟩) 19 ?_ rfl (by kernel_rfl) (by kernel_rfl) (by kernel_rfl) (by kernel_rfl) (fun _ _ _ h => h) (by kernel_rfl) ?_ ((Hooks.add HBHK8.out (Hooks.nil _ _))) ?_
              rotate_left
              · intro W'; go_simp; first | done | with_reducible rfl
              try simp only [Act.put]
              try simp only [List.setIfInBounds_toArray]
              try simp only [List.set_cons_succ]
              try simp only [List.set_cons_zero]
              refine loads_tail 20 (by kernel_rfl) (by kernel_rfl) (by kernel_rfl) (by kernel_rfl) ?_
              simp only [List.drop_succ_cons, List.drop_zero]
              go_wp2_with fail
              go_ret
              exact ⟨rfl, HB0.out.trans (K8.out.mono HB0.out.size)⟩
  · have hf : sm9B a0 = false := Bool.eq_false_iff.2 hsm
    rw [hf] at HSM
    clear hsm hf
    go_enter Tryz.func6, Tryz.ntmps6
    go_wp2_with (first | (go_at_call 9; rw [← HWE.out]; refine HSM.out.mono ?_; rintro e w1 ⟨rfl, hb⟩; have G1 := hideIt hb; clear hb HSM) | ((with_reducible refine at_load ?_); refine wpList_ldC (by kernel_rfl) (.tmp 3) rfl (p := w.heap.size) (c := c0) rfl (by first | exact HBX6.out | (rw [← HWE.out]; exact HBC.out.box)) ?_) | (go_at_call 10; refine (HSA.out _ G1.out).mono ?_; rintro e w9 ⟨rfl, hb⟩; have G9 := hideIt (G1.out.trans (hb.mono G1.out.size)); clear hb HSA))
    go_ret
    exact ⟨rfl, HB0.out.trans (G9.out.mono HB0.out.size)⟩

end Go.Proofs.YtkfahoaiialndaaGreatDoor.distanceSteps
