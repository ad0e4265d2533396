/-
  The walk of the law: for every code with at most 12 data units and 8 parity units, every selection of present units and every index, Basis, Combination, Recoverable and Decodable return what the specification defines
-/
import Derived.Test.YtpjgmekpnlpjaaaDoorExpJ
import Derived.Test.YtpjgmekpnlpjaaaDoorLwE
import Derived.Test.YtpjgmekpnlpjaaaDoorArgK
namespace Go.Proofs.YtpjgmekpnlpjaaaDoor.erasureBasisMatchesSpec
open Go.RowKit
set_option linter.unusedVariables false

theorem eq_bb (b : Bool) (w : World) : (binOp .eql 4 (.bool b) (.bool b)).run Tryd.prog w = .ok (.bool true) w := by
  cases b <;> kernel_rfl
theorem bas_short (x : Cd) (hs : List Bool) : (basR x hs).1.length ≤ 100000 := by
  unfold basR
  by_cases h : okB x hs = true
  · obtain ⟨m, n, hvc, _⟩ := VC.ok h
    rw [if_pos h]
    show (List.map _ (basL x hs)).length ≤ _
    rw [List.length_map, basL_vc hvc]
    have := bas_le (n := n) (hv := hvF hs) hvc.fm (gC_v hvc) hs.length
    have := hvc.wid
    omega
  · rw [if_neg h]; exact Nat.zero_le _
theorem comb_short (x : Cd) (hs : List Bool) (u : Int) : (combR x hs u).1.length ≤ 100000 := by
  unfold combR
  by_cases h : okB x hs = true ∧ idxB hs u = true
  · obtain ⟨m, n, hvc, _⟩ := VC.ok h.1
    rw [if_pos h]
    have h1 := trmR_len x hs u.toNat
    rw [basL_vc hvc] at h1
    have := bas_le (n := n) (hv := hvF hs) hvc.fm (gC_v hvc) hs.length
    have := hvc.wid
    omega
  · rw [if_neg h]; exact Nat.zero_le _
theorem int_is {w : World} {r : List Int × Int} {X : List Int} {ee : Int} {fn : FuncId} {args : Array Value} (h : Calls Tryd.prog fn args w (IntRes w r)) (hr : r = (X, ee)) :
    Calls Tryd.prog fn args w fun e w' => ∃ B cb, e = .returned (.tuple #[.slice B X.length cb, .int .i64 ee]) ∧ Sl w' w'.heap.size B 1 X.length (X.map iv) ∧ Below w.heap.size w w' := by
  subst hr
  refine h.mono ?_
  rintro e w' ⟨s, rfl, ho, hb⟩
  obtain ⟨B, cb, rfl, _, _⟩ := own_form ho
  exact ⟨B, cb, rfl, Sl.of_own ho, hb⟩
theorem term_is {w : World} {r : List (Nat × Nat) × Int} {X : List (Nat × Nat)} {ee : Int} {fn : FuncId} {args : Array Value} (h : Calls Tryd.prog fn args w (TermRes w r)) (hr : r = (X, ee)) :
    Calls Tryd.prog fn args w fun e w' => ∃ B cb, e = .returned (.tuple #[.slice B X.length cb, .int .i64 ee]) ∧ Sl w' w'.heap.size B 2 X.length (tcs X) ∧ Below w.heap.size w w' := by
  subst hr
  refine h.mono ?_
  rintro e w' ⟨s, rfl, ho, hb⟩
  obtain ⟨B, cb, rfl, _, _⟩ := own_form ho
  exact ⟨B, cb, rfl, Sl.of_own ho, hb⟩

set_option maxHeartbeats 1600000 in
set_option maxRecDepth 100000 in
theorem walk (a0 : Cd) (A0 : Option Addr) (c0 : Nat) (l1 : List Bool) (A1 : Option Addr) (c1 : Nat) (a2 : Int) (w : World) (x0 : CIn w a0 A0) (x1 : Sl w w.heap.size A1 1 l1.length (l1.map bl)) (m1 : l1.length ≤ 9223372036854775807) (w2 : -9223372036854775808 ≤ a2 ∧ a2 ≤ 9223372036854775807) (T1 : Tabs w) :
    Calls Tryd.prog 4 #[a0.v A0 c0, .slice A1 l1.length c1, .int .i64 a2] w fun e w' => e = .returned (.bool true) ∧ Below w.heap.size w w' := by
  obtain ⟨W0, hW0⟩ : ∃ W, W = w.alloc (.cells (a0.cs A0 c0).toArray 24) := ⟨_, rfl⟩
  have hb0 : Below w.heap.size w W0 := by rw [hW0]; exact below_new w _
  have HB0 := hideIt hb0
  have HBC := hideIt (show BC W0 w.heap.size a0 A0 c0 by rw [hW0]; exact BC.new c0 x0)
  have HT := hideIt (T1.keep hb0)
  have HXA := hideIt ((x1.below hb0).wide hb0.size)
  have HWE := hideIt hW0
  have HSA := hideIt (sanity_any W0 HT.out)
  have hnot := not_b
  have HSM := hideIt (fun (W : World) (h : Below W0.heap.size W0 W) => small_any a0 A0 c0 W (HBC.out.cin.keep h))
  clear hW0 hb0 x0 x1 T1
  by_cases hsm : smB a0 = true
  · rw [hsm] at HSM
    by_cases h24 : (l1.length : Int) > 24
    · clear hsm
      go_enter Tryd.func4, Tryd.ntmps4
      go_wp2_with (first | (go_at_call 11; rw [← HWE.out]; refine HSA.out.mono ?_; rintro e w1 ⟨rfl, hb1⟩; have HB1 := hideIt hb1; clear hb1 HSA) | (go_at_call 12; refine (HSM.out _ HB1.out).mono ?_; rintro e w2 ⟨rfl, hb2⟩; have HB2 := hideIt (HB1.out.trans (hb2.mono HB1.out.size)); clear hb2 HSM) | ((with_reducible refine at_load ?_); refine wpList_ldC (by kernel_rfl) (.tmp 3) rfl (p := w.heap.size) (c := c0) rfl (HBC.out.keep HB1.out).box ?_))
      go_ret
      exact ⟨rfl, HB0.out.trans (HB2.out.mono HB0.out.size)⟩
    · have hSm := smB_sm hsm
      have hlen : l1.length ≤ 100000 := by omega
      obtain ⟨X, ee, hee⟩ : ∃ X ee, basR a0 l1 = (X, ee) := ⟨_, _, rfl⟩
      obtain ⟨Y, te, hte⟩ : ∃ Y te, combR a0 l1 a2 = (Y, te) := ⟨_, _, rfl⟩
      have hXb : X.length ≤ 100000 := by have := bas_short a0 l1; rw [hee] at this; exact this
      have hYb : Y.length ≤ 100000 := by have := comb_short a0 l1 a2; rw [hte] at this; exact this
      have HBA := hideIt (fun (W : World) (h : Below W0.heap.size W0 W) => int_is (basis_any a0 A0 c0 W (HT.out.keep h) (HBC.out.cin.keep h) l1 A1 c1 hlen ((HXA.out.below h).wide h.size)) hee)
      have HBB := hideIt (fun (W : World) (h : Below W0.heap.size W0 W) => int_is (rbasis_any a0 A0 c0 W (HBC.out.cin.keep h) hSm l1 A1 c1 ((HXA.out.below h).wide h.size)) hee)
      have HCA := hideIt (fun (W : World) (h : Below W0.heap.size W0 W) => term_is (combination_any a0 A0 c0 W (HT.out.keep h) (HBC.out.cin.keep h) l1 A1 c1 hlen ((HXA.out.below h).wide h.size) a2) hte)
      have HCB := hideIt (fun (W : World) (h : Below W0.heap.size W0 W) => term_is (rcomb_any a0 A0 c0 W (HBC.out.cin.keep h) hSm l1 A1 c1 ((HXA.out.below h).wide h.size) a2) hte)
      have HRA := hideIt (fun (W : World) (h : Below W0.heap.size W0 W) => recoverable_any a0 A0 c0 W (HT.out.keep h) (HBC.out.cin.keep h) l1 A1 c1 hlen ((HXA.out.below h).wide h.size) a2)
      have HRB := hideIt (fun (W : World) (h : Below W0.heap.size W0 W) => rrecoverable_any a0 A0 c0 W (HBC.out.cin.keep h) hSm l1 A1 c1 ((HXA.out.below h).wide h.size) a2)
      have HDA := hideIt (fun (W : World) (h : Below W0.heap.size W0 W) => decodable_any a0 A0 c0 W (HT.out.keep h) (HBC.out.cin.keep h) l1 A1 c1 hlen ((HXA.out.below h).wide h.size))
      have HDB := hideIt (fun (W : World) (h : Below W0.heap.size W0 W) => rdecodable_any a0 A0 c0 W (HBC.out.cin.keep h) hSm l1 A1 c1 ((HXA.out.below h).wide h.size))
      have HSI := hideIt (fun (W : World) (A B : Option Addr) c d (h1 : Sl W W.heap.size A 1 X.length (X.map iv)) (h2 : Sl W W.heap.size B 1 X.length (X.map iv)) => by
        have := sameInts_any X X A B c d W h1 h2 hXb
        rw [decide_eq_true rfl] at this
        exact this)
      have HST := hideIt (fun (W : World) (A B : Option Addr) c d (h1 : Sl W W.heap.size A 2 Y.length (tcs Y)) (h2 : Sl W W.heap.size B 2 Y.length (tcs Y)) => by
        have := sameTerms_any Y Y A B c d W h1 h2 hYb
        rw [decide_eq_true rfl] at this
        exact this)
      have hnE : binOp .neq 32 (.int .i64 ee) (.int .i64 ee) = pure (.bool false) := by rw [i_neq, decide_eq_false (fun h => h rfl)]
      have hnT : binOp .neq 32 (.int .i64 te) (.int .i64 te) = pure (.bool false) := by rw [i_neq, decide_eq_false (fun h => h rfl)]
      obtain ⟨rc, hrc⟩ : ∃ y, y = decide ((combR a0 l1 a2).2 = 0) := ⟨_, rfl⟩
      obtain ⟨dc, hdc⟩ : ∃ y, y = (okB a0 l1 && decide ((basL a0 l1).length = nC a0)) := ⟨_, rfl⟩
      rw [← hrc] at HRA HRB
      rw [← hdc] at HDA HDB
      have heR := eq_bb rc
      have heD := eq_bb dc
      clear hsm hSm hlen hee hte hXb hYb hrc hdc
      go_enter Tryd.func4, Tryd.ntmps4
      go_wp2_with (first
        | (go_at_call 11; rw [← HWE.out]; refine HSA.out.mono ?_; rintro e w1 ⟨rfl, hb1⟩; have HB1 := hideIt hb1; clear hb1 HSA) | (go_at_call 12; refine (HSM.out _ HB1.out).mono ?_; rintro e w2 ⟨rfl, hb2⟩; have HB2 := hideIt (HB1.out.trans (hb2.mono HB1.out.size)); clear hb2 HSM) | ((with_reducible refine at_load ?_); refine wpList_ldC (by kernel_rfl) (.tmp 3) rfl (p := w.heap.size) (c := c0) rfl (HBC.out.keep HB1.out).box ?_)
        | (go_at_call 24; refine (HBA.out _ HB2.out).mono ?_; rintro e w3 ⟨B3, b3, rfl, hs3, hb3⟩; have HB3 := hideIt (HB2.out.trans (hb3.mono HB2.out.size)); have HS3 := hideIt hs3; clear hs3 hb3 HBA)
        | (go_at_call 25; refine (HBB.out _ HB3.out).mono ?_; rintro e w4 ⟨B4, b4, rfl, hs4, hb4⟩; have HB4 := hideIt (HB3.out.trans (hb4.mono HB3.out.size)); have HP4 := hideIt ((HS3.out.below hb4).wide hb4.size); have HQ4 := hideIt hs4; clear hs4 hb4 HBB HS3)
        | (go_at_call 26; refine (HCA.out _ HB4.out).mono ?_; rintro e w5 ⟨B5, b5, rfl, hs5, hb5⟩; have HB5 := hideIt (HB4.out.trans (hb5.mono HB4.out.size)); have HP5 := hideIt ((HP4.out.below hb5).wide hb5.size); have HQ5 := hideIt ((HQ4.out.below hb5).wide hb5.size); have HU5 := hideIt hs5; clear hs5 hb5 HCA HP4 HQ4)
        | (go_at_call 27; refine (HCB.out _ HB5.out).mono ?_; rintro e w6 ⟨B6, b6, rfl, hs6, hb6⟩; have HB6 := hideIt (HB5.out.trans (hb6.mono HB5.out.size)); have HP6 := hideIt ((HP5.out.below hb6).wide hb6.size); have HQ6 := hideIt ((HQ5.out.below hb6).wide hb6.size); have HU6 := hideIt ((HU5.out.below hb6).wide hb6.size); have HV6 := hideIt hs6; clear hs6 hb6 HCB HP5 HQ5 HU5)
        | (go_at_call 18; refine (HSI.out _ _ _ _ _ HP6.out HQ6.out).mono ?_; rintro e w7 ⟨rfl, nq, rfl⟩; clear HSI)
        | (go_at_call 28; refine (HST.out (w6.drewN nq) _ _ _ _ HU6.out HV6.out).mono ?_; rintro e w7 ⟨rfl, np, rfl⟩; clear HST)
        | ((with_reducible refine at_load ?_); refine wpList_ldC (by kernel_rfl) (.tmp 3) rfl (p := w.heap.size) (c := c0) rfl (HBC.out.keep HB2.out).box ?_) | ((with_reducible refine at_load ?_); refine wpList_ldC (by kernel_rfl) (.tmp 3) rfl (p := w.heap.size) (c := c0) rfl (HBC.out.keep HB3.out).box ?_) | ((with_reducible refine at_load ?_); refine wpList_ldC (by kernel_rfl) (.tmp 3) rfl (p := w.heap.size) (c := c0) rfl (HBC.out.keep HB4.out).box ?_) | ((with_reducible refine at_load ?_); refine wpList_ldC (by kernel_rfl) (.tmp 3) rfl (p := w.heap.size) (c := c0) rfl (HBC.out.keep HB5.out).box ?_))
      obtain ⟨w8, hw8⟩ : ∃ W, W = w6.drewN (nq + np) := ⟨_, rfl⟩
      have HB8 := hideIt (show Below W0.heap.size W0 w8 by rw [hw8]; exact below_drewN HB6.out (nq + np))
      rw [← hw8]
      clear hw8 HP6 HQ6 HU6 HV6 hnE hnT
      refine loads_begin_n 22 [(21, fun W => Blk W w.heap.size 24 (a0.cs A0 c0))] rfl (by kernel_rfl) ?_
      refine wpAnyL_move (oi := ⟨some 72, _, _, _, _, _⟩) 0 ?_ rfl (by kernel_rfl) (by kernel_rfl) (by kernel_rfl) (by kernel_rfl) (fun _ _ _ h => h) (by kernel_rfl) ?_ ((Hooks.add (HBC.out.keep HB8.out).box (Hooks.nil _ _))) ?_
      rotate_left
      · intro W'; go_simp; first | done | with_reducible rfl
      try simp only [Act.put]
      try simp only [List.setIfInBounds_toArray]
      try simp only [List.set_cons_succ]
      try simp only [List.set_cons_zero]
      refine wpAnyL_move (oi := ⟨some 73, _, _, _, _, _⟩) 1 ?_ rfl (by kernel_rfl) (by kernel_rfl) (by kernel_rfl) (by kernel_rfl) (fun _ _ _ h => h) (by kernel_rfl) ?_ ((Hooks.add (HBC.out.keep HB8.out).box (Hooks.nil _ _))) ?_
      rotate_left
      · intro W'; go_simp; first | done | with_reducible rfl
      try simp only [Act.put]
      try simp only [List.setIfInBounds_toArray]
      try simp only [List.set_cons_succ]
      try simp only [List.set_cons_zero]
      refine wpAnyL_take (oi := ⟨some 74, _, _, _, _, _⟩) 2 21 (a0.v A0 c0) _ rfl (by kernel_rfl) (by kernel_rfl) (by kernel_rfl) (by kernel_rfl) (by kernel_rfl) (by kernel_rfl) (.head _) (fun _ _ _ h => h) (by kernel_rfl) (fun W' hW' => exec_load_blk (cs := a0.cs A0 c0) rfl rfl hW' _ Tryd.underlying24 rfl isz5) (Hooks.add (HBC.out.keep HB8.out).box (Hooks.nil _ _)) ?_
      try simp only [Act.put]
      try simp only [List.setIfInBounds_toArray]
      try simp only [List.set_cons_succ]
      try simp only [List.set_cons_zero]
      refine wpAnyL_move (oi := ⟨some 75, _, _, _, _, _⟩) 3 ?_ rfl (by kernel_rfl) (by kernel_rfl) (by kernel_rfl) (by kernel_rfl) (fun _ _ _ h => h) (by kernel_rfl) ?_ ((Hooks.add (HBC.out.keep HB8.out).box (Hooks.nil _ _))) ?_
      rotate_left
      · intro W'; go_simp; first | done | with_reducible rfl
      try simp only [Act.put]
      try simp only [List.setIfInBounds_toArray]
      try simp only [List.set_cons_succ]
      try simp only [List.set_cons_zero]
      refine wpAnyL_move (oi := ⟨some 76, _, _, _, _, _⟩) 4 ?_ rfl (by kernel_rfl) (by kernel_rfl) (by kernel_rfl) (by kernel_rfl) (fun _ _ _ h => h) (by kernel_rfl) ?_ ((Hooks.add (HBC.out.keep HB8.out).box (Hooks.nil _ _))) ?_
      rotate_left
      · intro W'; go_simp; first | done | with_reducible rfl
      try simp only [Act.put]
      try simp only [List.setIfInBounds_toArray]
      try simp only [List.set_cons_succ]
      try simp only [List.set_cons_zero]
      refine wpAnyL_take (oi := ⟨some 78, _, _, _, _, _⟩) 6 21 (a0.v A0 c0) _ rfl (by kernel_rfl) (by kernel_rfl) (by kernel_rfl) (by kernel_rfl) (by kernel_rfl) (by kernel_rfl) (.head _) (fun _ _ _ h => h) (by kernel_rfl) (fun W' hW' => exec_load_blk (cs := a0.cs A0 c0) rfl rfl hW' _ Tryd.underlying24 rfl isz5) (Hooks.add (HBC.out.keep HB8.out).box (Hooks.nil _ _)) ?_
      try simp only [Act.put]
      try simp only [List.setIfInBounds_toArray]
      try simp only [List.set_cons_succ]
      try simp only [List.set_cons_zero]
      refine wpAnyL_move (oi := ⟨some 79, _, _, _, _, _⟩) 7 ?_ rfl (by kernel_rfl) (by kernel_rfl) (by kernel_rfl) (by kernel_rfl) (fun _ _ _ h => h) (by kernel_rfl) ?_ ((Hooks.add (HBC.out.keep HB8.out).box (Hooks.nil _ _))) ?_
      rotate_left
      · intro W'; go_simp; first | done | with_reducible rfl
      try simp only [Act.put]
      try simp only [List.setIfInBounds_toArray]
      try simp only [List.set_cons_succ]
      try simp only [List.set_cons_zero]
      refine wpAnyL_move (oi := ⟨some 80, _, _, _, _, _⟩) 8 ?_ rfl (by kernel_rfl) (by kernel_rfl) (by kernel_rfl) (by kernel_rfl) (fun _ _ _ h => h) (by kernel_rfl) ?_ ((Hooks.add (HBC.out.keep HB8.out).box (Hooks.nil _ _))) ?_
      rotate_left
      · intro W'; go_simp; first | done | with_reducible rfl
      try simp only [Act.put]
      try simp only [List.setIfInBounds_toArray]
      try simp only [List.set_cons_succ]
      try simp only [List.set_cons_zero]
      refine wpAnyL_one (o := ⟨some 77, _, _, _, _, _⟩) 5 (by kernel_rfl) rfl (fun K hK => ?_)
      go_wp2_with (first
        | (go_at_call 29; refine (HRA.out _ (show Below W0.heap.size W0 w8.drew from HB8.out.drew)).mono ?_; rintro e w9 ⟨rfl, hb9⟩))
      have HB9 := hideIt (HB8.out.trans (((Below.refl w8.heap.size w8).drew.trans hb9).mono HB8.out.size))
      refine hK _ _ (Hooks.add (HBC.out.keep HB9.out).box (Hooks.nil _ _)) ?_
      clear hK K hb9 HRA
      try simp only [Act.put]
      try simp only [List.setIfInBounds_toArray]
      try simp only [List.set_cons_succ]
      try simp only [List.set_cons_zero]
      refine wpAnyL_one (o := ⟨some 81, _, _, _, _, _⟩) 9 (by kernel_rfl) rfl (fun K hK => ?_)
      go_wp2_with (first
        | (go_at_call 30; refine (HRB.out _ HB9.out).mono ?_; rintro e w10 ⟨rfl, hb10⟩))
      have HB10 := hideIt (HB9.out.trans (hb10.mono HB9.out.size))
      refine hK _ _ (Hooks.add (HBC.out.keep HB10.out).box (Hooks.nil _ _)) ?_
      clear hK K hb10 HRB
      try simp only [Act.put]
      try simp only [List.setIfInBounds_toArray]
      try simp only [List.set_cons_succ]
      try simp only [List.set_cons_zero]
      refine wpAnyL_move (oi := ⟨some 82, _, _, _, _, _⟩) 10 ?_ rfl (by kernel_rfl) (by kernel_rfl) (by kernel_rfl) (by kernel_rfl) (fun _ _ _ h => h) (by kernel_rfl) ?_ ((Hooks.add (HBC.out.keep HB10.out).box (Hooks.nil _ _))) ?_
      rotate_left
      · intro W'; go_simp; first | done | with_reducible rfl
      try simp only [Act.put]
      try simp only [List.setIfInBounds_toArray]
      try simp only [List.set_cons_succ]
      try simp only [List.set_cons_zero]
      refine wpAnyL_move (oi := ⟨some 83, _, _, _, _, _⟩) 11 ?_ rfl (by kernel_rfl) (by kernel_rfl) (by kernel_rfl) (by kernel_rfl) (fun _ _ _ h => h) (by kernel_rfl) ?_ ((Hooks.add (HBC.out.keep HB10.out).box (Hooks.nil _ _))) ?_
      rotate_left
      · intro W'; go_simp; first | done | with_reducible rfl
      try simp only [Act.put]
      try simp only [List.setIfInBounds_toArray]
      try simp only [List.set_cons_succ]
      try simp only [List.set_cons_zero]
      refine wpAnyL_move (oi := ⟨some 84, _, _, _, _, _⟩) 12 ?_ rfl (by kernel_rfl) (by kernel_rfl) (by kernel_rfl) (by kernel_rfl) (fun _ _ _ h => h) (by kernel_rfl) ?_ ((Hooks.add (HBC.out.keep HB10.out).box (Hooks.nil _ _))) ?_
      rotate_left
      · intro W'; go_simp; first | done | with_reducible rfl
      try simp only [Act.put]
      try simp only [List.setIfInBounds_toArray]
      try simp only [List.set_cons_succ]
      try simp only [List.set_cons_zero]
      refine wpAnyL_take (oi := ⟨some 85, _, _, _, _, _⟩) 13 21 (a0.v A0 c0) _ rfl (by kernel_rfl) (by kernel_rfl) (by kernel_rfl) (by kernel_rfl) (by kernel_rfl) (by kernel_rfl) (.head _) (fun _ _ _ h => h) (by kernel_rfl) (fun W' hW' => exec_load_blk (cs := a0.cs A0 c0) rfl rfl hW' _ Tryd.underlying24 rfl isz5) (Hooks.add (HBC.out.keep HB10.out).box (Hooks.nil _ _)) ?_
      try simp only [Act.put]
      try simp only [List.setIfInBounds_toArray]
      try simp only [List.set_cons_succ]
      try simp only [List.set_cons_zero]
      refine wpAnyL_move (oi := ⟨some 86, _, _, _, _, _⟩) 14 ?_ rfl (by kernel_rfl) (by kernel_rfl) (by kernel_rfl) (by kernel_rfl) (fun _ _ _ h => h) (by kernel_rfl) ?_ ((Hooks.add (HBC.out.keep HB10.out).box (Hooks.nil _ _))) ?_
      rotate_left
      · intro W'; go_simp; first | done | with_reducible rfl
      try simp only [Act.put]
      try simp only [List.setIfInBounds_toArray]
      try simp only [List.set_cons_succ]
      try simp only [List.set_cons_zero]
      refine wpAnyL_take (oi := ⟨some 88, _, _, _, _, _⟩) 16 21 (a0.v A0 c0) _ rfl (by kernel_rfl) (by kernel_rfl) (by kernel_rfl) (by kernel_rfl) (by kernel_rfl) (by kernel_rfl) (.head _) (fun _ _ _ h => h) (by kernel_rfl) (fun W' hW' => exec_load_blk (cs := a0.cs A0 c0) rfl rfl hW' _ Tryd.underlying24 rfl isz5) (Hooks.add (HBC.out.keep HB10.out).box (Hooks.nil _ _)) ?_
      try simp only [Act.put]
      try simp only [List.setIfInBounds_toArray]
      try simp only [List.set_cons_succ]
      try simp only [List.set_cons_zero]
      refine wpAnyL_move (oi := ⟨some 89, _, _, _, _, _⟩) 17 ?_ rfl (by kernel_rfl) (by kernel_rfl) (by kernel_rfl) (by kernel_rfl) (fun _ _ _ h => h) (by kernel_rfl) ?_ ((Hooks.add (HBC.out.keep HB10.out).box (Hooks.nil _ _))) ?_
      rotate_left
      · intro W'; go_simp; first | done | with_reducible rfl
      try simp only [Act.put]
      try simp only [List.setIfInBounds_toArray]
      try simp only [List.set_cons_succ]
      try simp only [List.set_cons_zero]
      refine wpAnyL_one (o := ⟨some 87, _, _, _, _, _⟩) 15 (by kernel_rfl) rfl (fun K hK => ?_)
      go_wp2_with (first
        | (go_at_call 31; refine (HDA.out _ HB10.out).mono ?_; rintro e w11 ⟨rfl, hb11⟩))
      have HB11 := hideIt (HB10.out.trans (hb11.mono HB10.out.size))
      refine hK _ _ (Hooks.add (HBC.out.keep HB11.out).box (Hooks.nil _ _)) ?_
      clear hK K hb11 HDA
      try simp only [Act.put]
      try simp only [List.setIfInBounds_toArray]
      try simp only [List.set_cons_succ]
      try simp only [List.set_cons_zero]
      refine wpAnyL_one (o := ⟨some 90, _, _, _, _, _⟩) 18 (by kernel_rfl) rfl (fun K hK => ?_)
      go_wp2_with (first
        | (go_at_call 32; refine (HDB.out _ HB11.out).mono ?_; rintro e w12 ⟨rfl, hb12⟩))
      have HB12 := hideIt (HB11.out.trans (hb12.mono HB11.out.size))
      refine hK _ _ (Hooks.add (HBC.out.keep HB12.out).box (Hooks.nil _ _)) ?_
      clear hK K hb12 HDB
      try simp only [Act.put]
      try simp only [List.setIfInBounds_toArray]
      try simp only [List.set_cons_succ]
      try simp only [List.set_cons_zero]
      refine wpAnyL_move (oi := ⟨some 91, _, _, _, _, _⟩) 19 ?_ rfl (by kernel_rfl) (by kernel_rfl) (by kernel_rfl) (by kernel_rfl) (fun _ _ _ h => h) (by kernel_rfl) ?_ ((Hooks.add (HBC.out.keep HB12.out).box (Hooks.nil _ _))) ?_
      rotate_left
      · intro W'; go_simp; first | done | with_reducible rfl
      try simp only [Act.put]
      try simp only [List.setIfInBounds_toArray]
      try simp only [List.set_cons_succ]
      try simp only [List.set_cons_zero]
      refine wpAnyL_move (oi := ⟨some 92, _, _, _, _, _⟩) 20 ?_ rfl (by kernel_rfl) (by kernel_rfl) (by kernel_rfl) (by kernel_rfl) (fun _ _ _ h => h) (by kernel_rfl) ?_ ((Hooks.add (HBC.out.keep HB12.out).box (Hooks.nil _ _))) ?_
      rotate_left
      · intro W'; go_simp; first | done | with_reducible rfl
      try simp only [Act.put]
      try simp only [List.setIfInBounds_toArray]
      try simp only [List.set_cons_succ]
      try simp only [List.set_cons_zero]
      refine loads_tail 21 (by kernel_rfl) (by kernel_rfl) (by kernel_rfl) (by kernel_rfl) ?_
      simp only [List.drop_succ_cons, List.drop_zero]
      go_wp2_with fail
      go_ret
      exact ⟨rfl, HB0.out.trans (HB12.out.mono HB0.out.size)⟩
  · rw [Bool.eq_false_iff.2 hsm] at HSM
    clear hsm
    go_enter Tryd.func4, Tryd.ntmps4
    go_wp2_with (first | (go_at_call 11; rw [← HWE.out]; refine HSA.out.mono ?_; rintro e w1 ⟨rfl, hb1⟩; have HB1 := hideIt hb1; clear hb1 HSA) | (go_at_call 12; refine (HSM.out _ HB1.out).mono ?_; rintro e w2 ⟨rfl, hb2⟩; have HB2 := hideIt (HB1.out.trans (hb2.mono HB1.out.size)); clear hb2 HSM) | ((with_reducible refine at_load ?_); refine wpList_ldC (by kernel_rfl) (.tmp 3) rfl (p := w.heap.size) (c := c0) rfl (HBC.out.keep HB1.out).box ?_))
    go_ret
    exact ⟨rfl, HB0.out.trans (HB2.out.mono HB0.out.size)⟩

end Go.Proofs.YtpjgmekpnlpjaaaDoor.erasureBasisMatchesSpec
