/-
  The walk of the law: The plan for one unit, the checks and the reads of it are what the reference says.
-/
import Derived.Test.YtklngodlijiccaaDoorRepC
namespace Go.Proofs.YtklngodlijiccaaDoor.repairPlanMatchesSpec
open Go.RowKit
set_option linter.unusedVariables false


set_option maxHeartbeats 1600000 in
set_option maxRecDepth 100000 in
theorem walk (a0 : Cd) (A0 : Option Addr) (c0 : Nat) (l1 : List Bool) (A1 : Option Addr) (c1 : Nat) (a2 : Int) (w : World) (x0 : CIn w a0 A0) (x1 : Sl w w.heap.size A1 1 l1.length (l1.map bl)) (m1 : l1.length ≤ 140737488351232) (w2 : -9223372036854775808 ≤ a2 ∧ a2 ≤ 9223372036854775807) (T1 : Tabs w) :
    Calls Tryd.prog 3 #[a0.v A0 c0, .slice A1 l1.length c1, .int .i64 a2] w fun e w' => e = .returned (.bool true) ∧ Below w.heap.size w w' := by
  obtain ⟨W0, hW0⟩ : ∃ W, W = w.alloc (.cells (a0.cs A0 c0).toArray 24) := ⟨_, rfl⟩
  have hb0 : Below w.heap.size w W0 := by rw [hW0]; exact below_new w _
  have HB0 := hideIt hb0
  have HBC := hideIt (show BC W0 w.heap.size a0 A0 c0 by rw [hW0]; exact BC.new c0 x0)
  have HT := hideIt (T1.keep hb0)
  have HX := hideIt ((x1.below hb0).wide hb0.size)
  have HWE := hideIt hW0
  have HSA := hideIt (fun (W : World) (h : Below W0.heap.size W0 W) => sanity_any W (HT.out.keep h))
  have HSM := hideIt (small_any a0 A0 c0 W0 HBC.out.cin)
  have hnot := not_b
  clear hW0 hb0 x0 x1 T1 m1
  by_cases hsm : smB a0 = true
  · rw [hsm] at HSM
    have hS := smB_sm hsm
    have HPA := hideIt (fun (W : World) (h : Below W0.heap.size W0 W) => plan_any a0 A0 c0 W (HT.out.keep h) (HBC.out.keep h).cin l1 A1 c1 ((HX.out.below h).wide h.size) a2)
    have HPB := hideIt (fun (W : World) (h : Below W0.heap.size W0 W) => rplan_any a0 A0 c0 W (HBC.out.keep h).cin hS l1 A1 c1 ((HX.out.below h).wide h.size) a2)
    have HCA := hideIt (fun (W : World) (h : Below W0.heap.size W0 W) => checks_pm a0 A0 c0 W (HT.out.keep h) (HBC.out.keep h).cin a2)
    have HCB := hideIt (fun (W : World) (h : Below W0.heap.size W0 W) => rchecks_pm a0 A0 c0 W (HBC.out.keep h).cin hS a2)
    have hws := rwR_len hS a2
    have hpl := planR_len a0 l1 a2
    obtain ⟨pu, L, er, hr⟩ : ∃ pu L er, planR a0 l1 a2 = ((pu, L), er) := ⟨_, _, _, rfl⟩
    rw [hr] at HPA HPB hpl
    obtain ⟨ws, hw⟩ : ∃ ws, ws = rwR a0 a2 := ⟨_, rfl⟩
    rw [← hw] at HCA HCB hws
    have HWS := hideIt hws
    have HSS := hideIt (same_it pu L hpl)
    have HRA := hideIt (reads_tl pu L (by have : L.length ≤ 32 := hpl; omega))
    have HRB := hideIt (rreads_tl pu L (by have : L.length ≤ 32 := hpl; omega))
    have HIS := hideIt (ints_same ((zt L).map (·.1)) L.length (zt_len L) (by have : L.length ≤ 32 := hpl; omega))
    have he1 : binOp .eql 31 (.int .i64 er) (.int .i64 er) = pure (.bool true) := by rw [i_eql, decide_eq_true rfl]
    have hne : binOp .neq 3 (.int .i64 (ws.length : Int)) (.int .i64 (ws.length : Int)) = pure (.bool false) := by rw [i_neq]; simp
    clear hsm hr hpl hw hws hS
    go_enter Tryd.func3, Tryd.ntmps3
    go_wp2_with (first
      | (go_at_call 10; rw [← HWE.out]; refine HSM.out.mono ?_; rintro e w1 ⟨rfl, hb⟩; have G1 := hideIt hb; clear hb HSM) | ((with_reducible refine at_load ?_); refine wpList_ldC (by kernel_rfl) (.tmp 3) rfl (p := w.heap.size) (c := c0) rfl (by rw [← HWE.out]; exact HBC.out.box) ?_) | ((with_reducible refine at_load ?_); refine wpList_ldC (by kernel_rfl) (.tmp 3) rfl (p := w.heap.size) (c := c0) rfl (HBC.out.keep G1.out).box ?_)
      | (go_at_call 12; refine (HPA.out _ G1.out).mono ?_; rintro e w3 ⟨F3, c3, rfl, hs3, _, hb⟩; have HS3 := hideIt hs3; have G3 := hideIt (G1.out.trans (hb.mono G1.out.size)); clear hb hs3 HPA)
      | ((with_reducible refine at_store ?_); refine wpList_put rfl _ (.tmp 7) (.tmp 23) rfl w3.heap.size [.int .i64 pu, .slice F3 L.length c3] [.int .i64 0, .slice none 0 0] 30 rfl rfl (Blk.new w3 30 [.int .i64 0, .slice none 0 0]) iszP rfl (by simp [Value.oneCell']) ?_; intro w4 ht hb; have hbl := ht.below (below_new w3 (.cells #[.int .i64 0, .slice none 0 0] 30)) (Nat.le_refl _); have G4 := hideIt (G3.out.trans (hbl.mono G3.out.size)); have HP4 := hideIt hb; have HS4 := hideIt ((HS3.out.below hbl).wide hbl.size); clear ht hb hbl HS3)
      | ((with_reducible refine at_load ?_); refine wpList_ldC (by kernel_rfl) (.tmp 3) rfl (p := w.heap.size) (c := c0) rfl (HBC.out.keep G4.out).box ?_)
      | (go_at_call 13; refine (HPB.out _ G4.out).mono ?_; rintro e w5 ⟨F5, c5, rfl, hs5, _, hb⟩; have HS5 := hideIt hs5; have HP5 := hideIt (HP4.out.kept hb HP4.out.lt); have HS45 := hideIt ((HS4.out.below hb).wide hb.size); have G5 := hideIt (G4.out.trans (hb.mono G4.out.size)); clear hb hs5 HPB HP4 HS4)
      | ((with_reducible refine at_store ?_); refine wpList_put rfl _ (.tmp 9) (.tmp 30) rfl w5.heap.size [.int .i64 pu, .slice F5 L.length c5] [.int .i64 0, .slice none 0 0] 30 rfl rfl (Blk.new w5 30 [.int .i64 0, .slice none 0 0]) iszP rfl (by simp [Value.oneCell']) ?_; intro w6 ht hb; have hbl := ht.below (below_new w5 (.cells #[.int .i64 0, .slice none 0 0] 30)) (Nat.le_refl _); have G6 := hideIt (G5.out.trans (hbl.mono G5.out.size)); have HP6 := hideIt (HP5.out.kept hbl HP5.out.lt); have HQ6 := hideIt hb; have HS6 := hideIt ((HS45.out.below hbl).wide hbl.size); have HR6 := hideIt ((HS5.out.below hbl).wide hbl.size); clear ht hb hbl HP5 HS5 HS45))
    obtain ⟨p3, hp3⟩ : ∃ p, p = w3.heap.size := ⟨_, rfl⟩
    obtain ⟨p5, hp5⟩ : ∃ p, p = w5.heap.size := ⟨_, rfl⟩
    rw [← hp3] at HP6
    rw [← hp5] at HQ6
    rw [← hp3, ← hp5]
    clear hp3 hp5 G1 G3 G4 G5
    have HBHG6 := hideIt (HBC.out.keep G6.out).box
    refine loads_begin_n 8 [(7, fun W => Blk W w.heap.size 24 (a0.cs A0 c0))] rfl (by kernel_rfl) ?_
    have GD := hideIt G6.out.drew
    try simp only [Act.put]
    try simp only [List.setIfInBounds_toArray]
    try simp only [List.set_cons_succ]
    try simp only [List.set_cons_zero]
    refine wpAnyL_move (oi := ⟨some 33, _, _, _, _, _⟩) 1 ?_ rfl (by kernel_rfl) (by kernel_rfl) (by kernel_rfl) (by kernel_rfl) (fun _ _ _ h => h) (by kernel_rfl) ?_ ((Hooks.add HBHG6.out (Hooks.nil _ _))) ?_
    rotate_left
    · intro W'; go_simp; first | done | with_reducible rfl
    try simp only [Act.put]
    try simp only [List.setIfInBounds_toArray]
    try simp only [List.set_cons_succ]
    try simp only [List.set_cons_zero]
    refine wpAnyL_move (oi := ⟨some 36, _, _, _, _, _⟩) 4 ?_ rfl (by kernel_rfl) (by kernel_rfl) (by kernel_rfl) (by kernel_rfl) (fun _ _ _ h => h) (by kernel_rfl) ?_ ((Hooks.add HBHG6.out (Hooks.nil _ _))) ?_
    rotate_left
    · intro W'; go_simp; first | done | with_reducible rfl
    try simp only [Act.put]
    try simp only [List.setIfInBounds_toArray]
    try simp only [List.set_cons_succ]
    try simp only [List.set_cons_zero]
    refine wpAnyL_take (oi := ⟨some 32, _, _, _, _, _⟩) 0 7 (a0.v A0 c0) _ rfl (by kernel_rfl) (by kernel_rfl) (by kernel_rfl) (by kernel_rfl) (by kernel_rfl) (by kernel_rfl) (.head _) (fun _ _ _ h => h) (by kernel_rfl) (fun W' hW' => exec_load_blk (cs := a0.cs A0 c0) rfl rfl hW' _ Tryd.underlying24 rfl isz5) (Hooks.add HBHG6.out (Hooks.nil _ _)) ?_
    try simp only [Act.put]
    try simp only [List.setIfInBounds_toArray]
    try simp only [List.set_cons_succ]
    try simp only [List.set_cons_zero]
    refine wpAnyL_take (oi := ⟨some 35, _, _, _, _, _⟩) 3 7 (a0.v A0 c0) _ rfl (by kernel_rfl) (by kernel_rfl) (by kernel_rfl) (by kernel_rfl) (by kernel_rfl) (by kernel_rfl) (.head _) (fun _ _ _ h => h) (by kernel_rfl) (fun W' hW' => exec_load_blk (cs := a0.cs A0 c0) rfl rfl hW' _ Tryd.underlying24 rfl isz5) (Hooks.add HBHG6.out (Hooks.nil _ _)) ?_
    try simp only [Act.put]
    try simp only [List.setIfInBounds_toArray]
    try simp only [List.set_cons_succ]
    try simp only [List.set_cons_zero]
    refine wpAnyL_one (o := ⟨some 34, _, _, _, _, _⟩) 2 (by kernel_rfl) rfl (fun K hK => ?_)
    go_wp2_with (first | (go_at_call 14; refine (HCA.out _ GD.out).mono ?_; rintro e w7 ⟨F7, c7, rfl, hm7, hb⟩; have HM7 := hideIt hm7; have K7 := hideIt (GD.out.trans (hb.mono GD.out.size)); have J7 := hideIt (((Below.refl w6.heap.size w6).drew).trans hb); clear hm7 hb HCA))
    have HBHK7 := hideIt (HBC.out.keep K7.out).box
    refine hK _ _ (Hooks.add HBHK7.out (Hooks.nil _ _)) ?_
    clear hK K HBHG6
    try simp only [Act.put]
    try simp only [List.setIfInBounds_toArray]
    try simp only [List.set_cons_succ]
    try simp only [List.set_cons_zero]
    refine wpAnyL_one (o := ⟨some 37, _, _, _, _, _⟩) 5 (by kernel_rfl) rfl (fun K hK => ?_)
    go_wp2_with (first | (go_at_call 15; refine (HCB.out _ K7.out).mono ?_; rintro e w8 ⟨F8, c8, rfl, hm8, hb⟩; have HM8 := hideIt hm8; have HN8 := hideIt ((HM7.out.below hb).wide hb.size); have K8 := hideIt (K7.out.trans (hb.mono K7.out.size)); have J8 := hideIt (J7.out.trans (hb.mono J7.out.size)); clear hm8 hb HCB HM7))
    have HBHK8 := hideIt (HBC.out.keep K8.out).box
    refine hK _ _ (Hooks.add HBHK8.out (Hooks.nil _ _)) ?_
    clear hK K HBHK7
    try simp only [Act.put]
    try simp only [List.setIfInBounds_toArray]
    try simp only [List.set_cons_succ]
    try simp only [List.set_cons_zero]
    refine wpAnyL_move (oi := ⟨some 11, _, _, _, _, _⟩) 6 ?_ rfl (by kernel_rfl) (by kernel_rfl) (by kernel_rfl) (by kernel_rfl) (fun _ _ _ h => h) (by kernel_rfl) ?_ ((Hooks.add HBHK8.out (Hooks.nil _ _))) ?_
    rotate_left
    · intro W'; go_simp; first | done | with_reducible rfl
    try simp only [Act.put]
    try simp only [List.setIfInBounds_toArray]
    try simp only [List.set_cons_succ]
    try simp only [List.set_cons_zero]
    refine loads_tail 7 (by kernel_rfl) (by kernel_rfl) (by kernel_rfl) (by kernel_rfl) ?_
    simp only [List.drop_succ_cons, List.drop_zero]
    go_wp2_with fail
    go_loopg [6, 45] ws.length (fun gk s6 s45 wr => ∃ i : Nat, i + gk = ws.length ∧ s6 = .bool false ∧ s45 = .int .i64 (i : Int) ∧ Aside (Below w8.heap.size w8 wr))
    case atStart => exact ⟨0, by omega, rfl, rfl, Below.refl _ _⟩
    case round =>
      obtain ⟨i, hi, rfl, rfl, HLW⟩ := hrel
      obtain ⟨w9, rfl⟩ : ∃ x, x = wr := ⟨wr, rfl⟩
      have K9 := hideIt (K8.out.trans (HLW.out.mono K8.out.size))
      have HM9 := hideIt ((HM8.out.below HLW.out).wide HLW.out.size)
      have HN9 := hideIt ((HN8.out.below HLW.out).wide HLW.out.size)
      have hl100 := HWS.out.1
      by_cases hlt : i < ws.length
      · have hinc := inc_c 3 i (by omega)
        have hji : (i : Int) < (ws.length : Int) := by omega
        obtain ⟨g7, o7, A7, d7, rfl, hg7, hc7, hs7⟩ := HN9.out.row hlt
        obtain ⟨g8, o8, A8, d8, rfl, hg8, hc8, hs8⟩ := HM9.out.row hlt
        have HIW := hideIt (ints_same ws[i] ws[i].length rfl (by have := HWS.out.2 _ (List.getElem_mem hlt); omega))
        have HC7 := hideIt hc7
        have HC8 := hideIt hc8
        have HS7 := hideIt hs7
        have HS8 := hideIt hs8
        clear hg7 hg8 hc7 hc8 hs7 hs8
        go_wp2_with fail
        refine still_tail 8 (by kernel_rfl) (by kernel_rfl) ?_
        intro w9a hw9a
        have hca : w9a.cell? ⟨g7, o7 + i, none⟩ = some (.slice A7 ws[i].length d7) := by rw [hw9a]; exact HC7.out
        have hcb : w9a.cell? ⟨g8, o8 + i, none⟩ = some (.slice A8 ws[i].length d8) := by rw [hw9a]; exact HC8.out
        have HSa := hideIt (show Sl w9a w9a.heap.size A7 1 ws[i].length (ws[i].map iv) by rw [hw9a]; exact HS7.out.below (Below.refl _ _).drew)
        have HSb := hideIt (show Sl w9a w9a.heap.size A8 1 ws[i].length (ws[i].map iv) by rw [hw9a]; exact HS8.out.below (Below.refl _ _).drew)
        have HLa := hideIt (show Below w8.heap.size w8 w9a by rw [hw9a]; exact HLW.out.drew)
        clear hw9a HC7 HC8 HS7 HS8
        simp only [List.take_succ_cons, List.take_zero, List.drop_succ_cons, List.drop_zero]
        repeat still_step
        refine wpStill_nil ?_
        go_wp2_with (go_at_call 16; refine (HIW.out _ _ _ _ _ HSa.out HSb.out).mono ?_; rintro e w10 ⟨rfl, hb⟩; have HL10 := hideIt (HLa.out.trans (hb.mono HLa.out.size)); clear hb HIW)
        go_roundg (gk - 1)
        case measure => omega
        case rel => exact ⟨i + 1, by omega, rfl, by go_num, HL10.out⟩
      · have hji : ¬ (i : Int) < (ws.length : Int) := by omega
        go_wp2_with fail
        have HPP := hideIt (fun (W : World) (h : Below w6.heap.size w6 W) => HP6.out.kept h HP6.out.lt)
        have HQQ := hideIt (fun (W : World) (h : Below w6.heap.size w6 W) => HQ6.out.kept h HQ6.out.lt)
        have HSP := hideIt (fun (W : World) (h : Below w6.heap.size w6 W) => (HS6.out.below h).wide h.size)
        have HSQ := hideIt (fun (W : World) (h : Below w6.heap.size w6 W) => (HR6.out.below h).wide h.size)
        have J9 := hideIt (J8.out.trans (HLW.out.mono J8.out.size))
        clear HP6 HQ6 HS6 HR6 HM8 HN8 HM9 HN9 HLW
        have HBAJ9 := hideIt (HPP.out _ J9.out)
        have HBBJ9 := hideIt (HQQ.out _ J9.out)
        refine loads_begin_n 19 [(18, fun W => Blk W p3 30 [.int .i64 pu, .slice F3 L.length c3]), (18, fun W => Blk W p5 30 [.int .i64 pu, .slice F5 L.length c5])] rfl (by kernel_rfl) ?_
        have GD := hideIt J9.out.drew
        try simp only [Act.put]
        try simp only [List.setIfInBounds_toArray]
        try simp only [List.set_cons_succ]
        try simp only [List.set_cons_zero]
        refine wpAnyL_one (o := ⟨some 59, _, _, _, _, _⟩) 0 (by kernel_rfl) rfl (fun K hK => ?_)
        go_wp2_with (first | (go_at_call 11; refine (HSA.out _ (G6.out.trans (GD.out.mono G6.out.size))).mono ?_; rintro e w10 ⟨rfl, hb⟩; have J10 := hideIt (GD.out.trans (hb.mono GD.out.size)); clear hb HSA))
        have HBAJ10 := hideIt (HPP.out _ J10.out)
        have HBBJ10 := hideIt (HQQ.out _ J10.out)
        refine hK _ _ (Hooks.add HBAJ10.out (Hooks.add HBBJ10.out (Hooks.nil _ _))) ?_
        clear hK K HBAJ9 HBBJ9
        try simp only [Act.put]
        try simp only [List.setIfInBounds_toArray]
        try simp only [List.set_cons_succ]
        try simp only [List.set_cons_zero]
        refine wpAnyL_move (oi := ⟨some 60, _, _, _, _, _⟩) 1 ?_ rfl (by kernel_rfl) (by kernel_rfl) (by kernel_rfl) (by kernel_rfl) (fun _ _ _ h => h) (by kernel_rfl) ?_ ((Hooks.add HBAJ10.out (Hooks.add HBBJ10.out (Hooks.nil _ _)))) ?_
        rotate_left
        · intro W'; go_simp; first | done | with_reducible rfl
        try simp only [Act.put]
        try simp only [List.setIfInBounds_toArray]
        try simp only [List.set_cons_succ]
        try simp only [List.set_cons_zero]
        refine wpAnyL_move (oi := ⟨some 61, _, _, _, _, _⟩) 2 ?_ rfl (by kernel_rfl) (by kernel_rfl) (by kernel_rfl) (by kernel_rfl) (fun _ _ _ h => h) (by kernel_rfl) ?_ ((Hooks.add HBAJ10.out (Hooks.add HBBJ10.out (Hooks.nil _ _)))) ?_
        rotate_left
        · intro W'; go_simp; first | done | with_reducible rfl
        try simp only [Act.put]
        try simp only [List.setIfInBounds_toArray]
        try simp only [List.set_cons_succ]
        try simp only [List.set_cons_zero]
        refine wpAnyL_move (oi := ⟨some 62, _, _, _, _, _⟩) 3 ?_ rfl (by kernel_rfl) (by kernel_rfl) (by kernel_rfl) (by kernel_rfl) (fun _ _ _ h => h) (by kernel_rfl) ?_ ((Hooks.add HBAJ10.out (Hooks.add HBBJ10.out (Hooks.nil _ _)))) ?_
        rotate_left
        · intro W'; go_simp; first | done | with_reducible rfl
        try simp only [Act.put]
        try simp only [List.setIfInBounds_toArray]
        try simp only [List.set_cons_succ]
        try simp only [List.set_cons_zero]
        refine wpAnyL_move (oi := ⟨some 63, _, _, _, _, _⟩) 4 ?_ rfl (by kernel_rfl) (by kernel_rfl) (by kernel_rfl) (by kernel_rfl) (fun _ _ _ h => h) (by kernel_rfl) ?_ ((Hooks.add HBAJ10.out (Hooks.add HBBJ10.out (Hooks.nil _ _)))) ?_
        rotate_left
        · intro W'; go_simp; first | done | with_reducible rfl
        try simp only [Act.put]
        try simp only [List.setIfInBounds_toArray]
        try simp only [List.set_cons_succ]
        try simp only [List.set_cons_zero]
        refine wpAnyL_move (oi := ⟨some 64, _, _, _, _, _⟩) 5 ?_ rfl (by kernel_rfl) (by kernel_rfl) (by kernel_rfl) (by kernel_rfl) (fun _ _ _ h => h) (by kernel_rfl) ?_ ((Hooks.add HBAJ10.out (Hooks.add HBBJ10.out (Hooks.nil _ _)))) ?_
        rotate_left
        · intro W'; go_simp; first | done | with_reducible rfl
        try simp only [Act.put]
        try simp only [List.setIfInBounds_toArray]
        try simp only [List.set_cons_succ]
        try simp only [List.set_cons_zero]
        refine wpAnyL_move (oi := ⟨some 65, _, _, _, _, _⟩) 6 ?_ rfl (by kernel_rfl) (by kernel_rfl) (by kernel_rfl) (by kernel_rfl) (fun _ _ _ h => h) (by kernel_rfl) ?_ ((Hooks.add HBAJ10.out (Hooks.add HBBJ10.out (Hooks.nil _ _)))) ?_
        rotate_left
        · intro W'; go_simp; first | done | with_reducible rfl
        try simp only [Act.put]
        try simp only [List.setIfInBounds_toArray]
        try simp only [List.set_cons_succ]
        try simp only [List.set_cons_zero]
        refine wpAnyL_take (oi := ⟨some 66, _, _, _, _, _⟩) 7 18 (.agg #[.int .i64 pu, .slice F3 L.length c3]) _ rfl (by kernel_rfl) (by kernel_rfl) (by kernel_rfl) (by kernel_rfl) (by kernel_rfl) (by kernel_rfl) (.head _) (fun _ _ _ h => h) (by kernel_rfl) (fun W' hW' => exec_load_blk (cs := [.int .i64 pu, .slice F3 L.length c3]) rfl rfl hW' _ Tryd.underlying30 rfl iszP) (Hooks.add HBAJ10.out (Hooks.add HBBJ10.out (Hooks.nil _ _))) ?_
        try simp only [Act.put]
        try simp only [List.setIfInBounds_toArray]
        try simp only [List.set_cons_succ]
        try simp only [List.set_cons_zero]
        refine wpAnyL_take (oi := ⟨some 67, _, _, _, _, _⟩) 8 18 (.agg #[.int .i64 pu, .slice F5 L.length c5]) _ rfl (by kernel_rfl) (by kernel_rfl) (by kernel_rfl) (by kernel_rfl) (by kernel_rfl) (by kernel_rfl) (.tail _ (.head _)) (fun _ _ _ h => h) (by kernel_rfl) (fun W' hW' => exec_load_blk (cs := [.int .i64 pu, .slice F5 L.length c5]) rfl rfl hW' _ Tryd.underlying30 rfl iszP) (Hooks.add HBAJ10.out (Hooks.add HBBJ10.out (Hooks.nil _ _))) ?_
        try simp only [Act.put]
        try simp only [List.setIfInBounds_toArray]
        try simp only [List.set_cons_succ]
        try simp only [List.set_cons_zero]
        refine wpAnyL_one (o := ⟨some 68, _, _, _, _, _⟩) 9 (by kernel_rfl) rfl (fun K hK => ?_)
        go_wp2_with (first | (go_at_call 17; refine (HSS.out _ _ _ _ _ (HSP.out _ J10.out) (HSQ.out _ J10.out)).mono ?_; rintro e w11 ⟨rfl, hb⟩; have J11 := hideIt (J10.out.trans (hb.mono J10.out.size)); clear hb HSS))
        have HBAJ11 := hideIt (HPP.out _ J11.out)
        have HBBJ11 := hideIt (HQQ.out _ J11.out)
        refine hK _ _ (Hooks.add HBAJ11.out (Hooks.add HBBJ11.out (Hooks.nil _ _))) ?_
        clear hK K HBAJ10 HBBJ10
        try simp only [Act.put]
        try simp only [List.setIfInBounds_toArray]
        try simp only [List.set_cons_succ]
        try simp only [List.set_cons_zero]
        refine wpAnyL_move (oi := ⟨some 69, _, _, _, _, _⟩) 10 ?_ rfl (by kernel_rfl) (by kernel_rfl) (by kernel_rfl) (by kernel_rfl) (fun _ _ _ h => h) (by kernel_rfl) ?_ ((Hooks.add HBAJ11.out (Hooks.add HBBJ11.out (Hooks.nil _ _)))) ?_
        rotate_left
        · intro W'; go_simp; first | done | with_reducible rfl
        try simp only [Act.put]
        try simp only [List.setIfInBounds_toArray]
        try simp only [List.set_cons_succ]
        try simp only [List.set_cons_zero]
        refine wpAnyL_move (oi := ⟨some 70, _, _, _, _, _⟩) 11 ?_ rfl (by kernel_rfl) (by kernel_rfl) (by kernel_rfl) (by kernel_rfl) (fun _ _ _ h => h) (by kernel_rfl) ?_ ((Hooks.add HBAJ11.out (Hooks.add HBBJ11.out (Hooks.nil _ _)))) ?_
        rotate_left
        · intro W'; go_simp; first | done | with_reducible rfl
        try simp only [Act.put]
        try simp only [List.setIfInBounds_toArray]
        try simp only [List.set_cons_succ]
        try simp only [List.set_cons_zero]
        refine wpAnyL_take (oi := ⟨some 71, _, _, _, _, _⟩) 12 18 (.agg #[.int .i64 pu, .slice F3 L.length c3]) _ rfl (by kernel_rfl) (by kernel_rfl) (by kernel_rfl) (by kernel_rfl) (by kernel_rfl) (by kernel_rfl) (.head _) (fun _ _ _ h => h) (by kernel_rfl) (fun W' hW' => exec_load_blk (cs := [.int .i64 pu, .slice F3 L.length c3]) rfl rfl hW' _ Tryd.underlying30 rfl iszP) (Hooks.add HBAJ11.out (Hooks.add HBBJ11.out (Hooks.nil _ _))) ?_
        try simp only [Act.put]
        try simp only [List.setIfInBounds_toArray]
        try simp only [List.set_cons_succ]
        try simp only [List.set_cons_zero]
        refine wpAnyL_take (oi := ⟨some 73, _, _, _, _, _⟩) 14 18 (.agg #[.int .i64 pu, .slice F5 L.length c5]) _ rfl (by kernel_rfl) (by kernel_rfl) (by kernel_rfl) (by kernel_rfl) (by kernel_rfl) (by kernel_rfl) (.tail _ (.head _)) (fun _ _ _ h => h) (by kernel_rfl) (fun W' hW' => exec_load_blk (cs := [.int .i64 pu, .slice F5 L.length c5]) rfl rfl hW' _ Tryd.underlying30 rfl iszP) (Hooks.add HBAJ11.out (Hooks.add HBBJ11.out (Hooks.nil _ _))) ?_
        try simp only [Act.put]
        try simp only [List.setIfInBounds_toArray]
        try simp only [List.set_cons_succ]
        try simp only [List.set_cons_zero]
        refine wpAnyL_one (o := ⟨some 72, _, _, _, _, _⟩) 13 (by kernel_rfl) rfl (fun K hK => ?_)
        go_wp2_with (first | (go_at_call 18; refine (HRA.out _ _ _ (HSP.out _ J11.out)).mono ?_; rintro e w12 ⟨D, cd, rfl, hs, hb⟩; have HD12 := hideIt hs; have J12 := hideIt (J11.out.trans (hb.mono J11.out.size)); clear hb hs HRA))
        have HBAJ12 := hideIt (HPP.out _ J12.out)
        have HBBJ12 := hideIt (HQQ.out _ J12.out)
        refine hK _ _ (Hooks.add HBAJ12.out (Hooks.add HBBJ12.out (Hooks.nil _ _))) ?_
        clear hK K HBAJ11 HBBJ11
        try simp only [Act.put]
        try simp only [List.setIfInBounds_toArray]
        try simp only [List.set_cons_succ]
        try simp only [List.set_cons_zero]
        refine wpAnyL_one (o := ⟨some 74, _, _, _, _, _⟩) 15 (by kernel_rfl) rfl (fun K hK => ?_)
        go_wp2_with (first | (go_at_call 19; refine (HRB.out _ _ _ (HSQ.out _ J12.out)).mono ?_; rintro e w13 ⟨E, ce, rfl, hs, hb⟩; have HE13 := hideIt hs; have HD13 := hideIt ((HD12.out.below hb).wide hb.size); have J13 := hideIt (J12.out.trans (hb.mono J12.out.size)); clear hb hs HRB))
        have HBAJ13 := hideIt (HPP.out _ J13.out)
        have HBBJ13 := hideIt (HQQ.out _ J13.out)
        refine hK _ _ (Hooks.add HBAJ13.out (Hooks.add HBBJ13.out (Hooks.nil _ _))) ?_
        clear hK K HBAJ12 HBBJ12
        try simp only [Act.put]
        try simp only [List.setIfInBounds_toArray]
        try simp only [List.set_cons_succ]
        try simp only [List.set_cons_zero]
        refine wpAnyL_one (o := ⟨some 75, _, _, _, _, _⟩) 16 (by kernel_rfl) rfl (fun K hK => ?_)
        go_wp2_with (first | (go_at_call 16; refine (HIS.out _ _ _ _ _ HD13.out HE13.out).mono ?_; rintro e w14 ⟨rfl, hb⟩; have J14 := hideIt (J13.out.trans (hb.mono J13.out.size)); clear hb HIS))
        have HBAJ14 := hideIt (HPP.out _ J14.out)
        have HBBJ14 := hideIt (HQQ.out _ J14.out)
        refine hK _ _ (Hooks.add HBAJ14.out (Hooks.add HBBJ14.out (Hooks.nil _ _))) ?_
        clear hK K HBAJ13 HBBJ13
        try simp only [Act.put]
        try simp only [List.setIfInBounds_toArray]
        try simp only [List.set_cons_succ]
        try simp only [List.set_cons_zero]
        refine wpAnyL_move (oi := ⟨some 76, _, _, _, _, _⟩) 17 ?_ rfl (by kernel_rfl) (by kernel_rfl) (by kernel_rfl) (by kernel_rfl) (fun _ _ _ h => h) (by kernel_rfl) ?_ ((Hooks.add HBAJ14.out (Hooks.add HBBJ14.out (Hooks.nil _ _)))) ?_
        rotate_left
        · intro W'; go_simp; first | done | with_reducible rfl
        try simp only [Act.put]
        try simp only [List.setIfInBounds_toArray]
        try simp only [List.set_cons_succ]
        try simp only [List.set_cons_zero]
        refine loads_tail 18 (by kernel_rfl) (by kernel_rfl) (by kernel_rfl) (by kernel_rfl) ?_
        simp only [List.drop_succ_cons, List.drop_zero]
        go_wp2_with fail
        go_ret
        exact ⟨rfl, HB0.out.trans ((G6.out.trans (J14.out.mono G6.out.size)).mono HB0.out.size)⟩
  · have hf : smB a0 = false := Bool.eq_false_iff.2 hsm
    rw [hf] at HSM
    clear hsm hf
    go_enter Tryd.func3, Tryd.ntmps3
    go_wp2_with (first | (go_at_call 10; rw [← HWE.out]; refine HSM.out.mono ?_; rintro e w1 ⟨rfl, hb⟩; have G1 := hideIt hb; clear hb HSM) | ((with_reducible refine at_load ?_); refine wpList_ldC (by kernel_rfl) (.tmp 3) rfl (p := w.heap.size) (c := c0) rfl (by rw [← HWE.out]; exact HBC.out.box) ?_) | (go_at_call 11; refine (HSA.out _ G1.out).mono ?_; rintro e w2 ⟨rfl, hb⟩; have G2 := hideIt (G1.out.trans (hb.mono G1.out.size)); clear hb HSA))
    go_ret
    exact ⟨rfl, HB0.out.trans (G2.out.mono HB0.out.size)⟩

end Go.Proofs.YtklngodlijiccaaDoor.repairPlanMatchesSpec
