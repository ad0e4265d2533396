/-
  The walk of the law: Valid, Width, Generator and Encode return what the specification defines
-/
import Derived.Test.YtpjgmekpnlpjaaaDoorLwE
import Derived.Test.YtpjgmekpnlpjaaaDoorArgK
import Derived.Test.YtpjgmekpnlpjaaaDoorEreD
namespace Go.Proofs.YtpjgmekpnlpjaaaDoor.erasureEncodeMatchesSpec
open Go.RowKit
set_option linter.unusedVariables false

theorem eq_bb (b : Bool) (w : World) : (binOp .eql 4 (.bool b) (.bool b)).run Tryd.prog w = .ok (.bool true) w := by
  cases b <;> kernel_rfl
theorem gen_len (x : Cd) : (genR x).1.l.length ≤ 100000 := by
  unfold genR
  split
  · next h =>
    obtain ⟨m, n, hvc⟩ := vC_spec h
    show (genM x).l.length ≤ _
    unfold genM
    rw [mk_len, hvc.dn]
    have := hvc.wid
    have : (n + x.par.length) * n ≤ 32 * 32 := Nat.mul_le_mul (by omega) (by omega)
    omega
  · exact Nat.zero_le _
theorem encR_len (x : Cd) (us : List (List UInt8)) (h1 : us.length ≤ 24) (h2 : x.par.length ≤ 8) : (encR x us).1.length ≤ 100000 := by
  unfold encR
  split
  · show (us ++ _).length ≤ _
    rw [List.length_append, List.length_map]
    omega
  · exact Nat.zero_le _
theorem gen_is {w : World} {r : Mt × Int} {F R C : Int} {l : List Int} {ge : Int} {fn : FuncId} {args : Array Value} (h : Calls Tryd.prog fn args w (MRes w r)) (hr : r = (⟨F, R, C, l⟩, ge)) :
    Calls Tryd.prog fn args w fun e w' => ∃ B cb, e = .returned (.tuple #[mtV F R C (.slice B l.length cb), .int .i64 ge]) ∧ Sl w' w'.heap.size B 1 l.length (l.map iv) ∧ Below w.heap.size w w' := by
  subst hr
  refine h.mono ?_
  rintro e w' ⟨s, rfl, ho, hb⟩
  obtain ⟨B, cb, rfl, _, _⟩ := own_form ho
  exact ⟨B, cb, rfl, Sl.of_own ho, hb⟩
theorem enc_is {w : World} {r : List (List UInt8) × Int} {X : List (List UInt8)} {ee : Int} {fn : FuncId} {args : Array Value} (h : Calls Tryd.prog fn args w (StrRes w r)) (hr : r = (X, ee)) :
    Calls Tryd.prog fn args w fun e w' => ∃ B cb, e = .returned (.tuple #[.slice B X.length cb, .int .i64 ee]) ∧ Sl w' w'.heap.size B 1 X.length (X.map sv) ∧ Below w.heap.size w w' := by
  subst hr
  refine h.mono ?_
  rintro e w' ⟨s, rfl, ho, hb⟩
  obtain ⟨B, cb, rfl, _, _⟩ := own_form ho
  exact ⟨B, cb, rfl, Sl.of_own ho, hb⟩

set_option maxHeartbeats 600000 in
set_option maxRecDepth 100000 in
theorem walk (a0 : Cd) (A0 : Option Addr) (c0 : Nat) (l1 : List (List UInt8)) (A1 : Option Addr) (c1 : Nat) (w : World) (x0 : CIn w a0 A0) (x1 : Sl w w.heap.size A1 1 l1.length (l1.map sv)) (m1 : l1.length ≤ 9223372036854775807) (T1 : Tabs w) :
    Calls Tryd.prog 3 #[a0.v A0 c0, .slice A1 l1.length c1] w fun e w' => e = .returned (.bool true) ∧ Below w.heap.size w w' := by
  obtain ⟨W0, hW0⟩ : ∃ W, W = w.alloc (.cells (a0.cs A0 c0).toArray 24) := ⟨_, rfl⟩
  have hb0 : Below w.heap.size w W0 := by rw [hW0]; exact below_new w _
  have HB0 := hideIt hb0
  have HBC := hideIt (show BC W0 w.heap.size a0 A0 c0 by rw [hW0]; exact BC.new c0 x0)
  have HT := hideIt (T1.keep hb0)
  have HXA := hideIt ((x1.below hb0).wide hb0.size)
  have HWE := hideIt hW0
  have HSA := hideIt (sanity_any W0 HT.out)
  have hnot := not_b
  have HSM := hideIt (fun (W : World) (h : Below W0.heap.size W0 W) => small_any a0 A0 c0 W (HBC.out.cin.keep h))
  have HFA := hideIt (fun (W : World) (h : Below W0.heap.size W0 W) => few_any l1 m1 A1 c1 W ((HXA.out.below h).wide h.size))
  have HM1 := hideIt m1
  clear hW0 hb0 x0 x1 T1 m1
  by_cases hsm : smB a0 = true
  · rw [hsm] at HSM
    by_cases hfa : fewB l1 = true
    · rw [hfa] at HFA
      have h24 := (fewB_is hfa).1
      have h64 := (fewB_is hfa).2
      have hSm := smB_sm hsm
      obtain ⟨F, R, C, l, ge, hge⟩ : ∃ F R C l ge, genR a0 = (⟨F, R, C, l⟩, ge) := ⟨_, _, _, _, _, rfl⟩
      obtain ⟨X, ee, hee⟩ : ∃ X ee, encR a0 l1 = (X, ee) := ⟨_, _, rfl⟩
      have hlb : l.length ≤ 100000 := by have := gen_len a0; rw [hge] at this; exact this
      have hXb : X.length ≤ 100000 := by have := encR_len a0 l1 h24 hSm.par; rw [hee] at this; exact this
      have HGA := hideIt (fun (W : World) (h : Below W0.heap.size W0 W) => gen_is (generator_any a0 A0 c0 W (HT.out.keep h) (HBC.out.cin.keep h)) hge)
      have HGB := hideIt (fun (W : World) (h : Below W0.heap.size W0 W) => gen_is (rgen_any a0 A0 c0 W (HBC.out.cin.keep h) hSm) hge)
      have HEA := hideIt (fun (W : World) (h : Below W0.heap.size W0 W) => enc_is (encode_any a0 A0 c0 W (HT.out.keep h) (HBC.out.cin.keep h) l1 (by omega) (fun u hu => Nat.le_trans (h64 u hu) (by decide)) A1 c1 ((HXA.out.below h).wide h.size)) hee)
      have HEB := hideIt (fun (W : World) (h : Below W0.heap.size W0 W) => enc_is (renc_any a0 A0 c0 W (HBC.out.cin.keep h) hSm l1 h24 h64 A1 c1 ((HXA.out.below h).wide h.size)) hee)
      have HVA := hideIt (fun (W : World) (h : Below W0.heap.size W0 W) => evalid_any a0 A0 c0 W (HT.out.keep h) (HBC.out.cin.keep h))
      have HVB := hideIt (fun (W : World) (h : Below W0.heap.size W0 W) => rvalid8_any a0 A0 c0 W (HBC.out.cin.keep h) hSm)
      have HWA := hideIt (fun (W : World) (h : Below W0.heap.size W0 W) => width_any a0 A0 c0 W (HT.out.keep h) (HBC.out.cin.keep h))
      have HWB := hideIt (fun (W : World) (h : Below W0.heap.size W0 W) => rwidth_any a0 A0 c0 W (HBC.out.cin.keep h) hSm)
      have HSI := hideIt (fun (W : World) (A B : Option Addr) c d (h1 : Sl W W.heap.size A 1 l.length (l.map iv)) (h2 : Sl W W.heap.size B 1 l.length (l.map iv)) => by
        have := sameInts_any l l A B c d W h1 h2 hlb
        rw [decide_eq_true rfl] at this
        exact this)
      have HST := hideIt (fun (W : World) (A B : Option Addr) c d (h1 : Sl W W.heap.size A 1 X.length (X.map sv)) (h2 : Sl W W.heap.size B 1 X.length (X.map sv)) => by
        have := sameTexts_any X X A B c d W h1 h2 hXb
        rw [decide_eq_true rfl] at this
        exact this)
      have hnF : binOp .neq 3 (.int .i64 F) (.int .i64 F) = pure (.bool false) := by rw [i_neq, decide_eq_false (fun h => h rfl)]
      have hnR : binOp .neq 3 (.int .i64 R) (.int .i64 R) = pure (.bool false) := by rw [i_neq, decide_eq_false (fun h => h rfl)]
      have hnC : binOp .neq 3 (.int .i64 C) (.int .i64 C) = pure (.bool false) := by rw [i_neq, decide_eq_false (fun h => h rfl)]
      have hnE : binOp .neq 32 (.int .i64 ge) (.int .i64 ge) = pure (.bool false) := by rw [i_neq, decide_eq_false (fun h => h rfl)]
      have heE : binOp .eql 32 (.int .i64 ee) (.int .i64 ee) = pure (.bool true) := by rw [i_eql, decide_eq_true rfl]
      obtain ⟨wc, hwc⟩ : ∃ y, y = wC a0 := ⟨_, rfl⟩
      obtain ⟨vc, hvc⟩ : ∃ y, y = vC a0 := ⟨_, rfl⟩
      rw [← hwc] at HWA HWB
      rw [← hvc] at HVA HVB
      have heW : binOp .eql 3 (.int .i64 wc) (.int .i64 wc) = pure (.bool true) := by rw [i_eql, decide_eq_true rfl]
      have heV := eq_bb vc
      clear hsm hfa h24 h64 hSm hge hee hlb hXb hwc hvc
      go_enter Tryd.func3, Tryd.ntmps3
      go_wp2_with (first
        | (go_at_call 11; rw [← HWE.out]; refine HSA.out.mono ?_; rintro e w1 ⟨rfl, hb1⟩; have HB1 := hideIt hb1; clear hb1 HSA) | (go_at_call 12; refine (HSM.out _ HB1.out).mono ?_; rintro e w2 ⟨rfl, hb2⟩; have HB2 := hideIt (HB1.out.trans (hb2.mono HB1.out.size)); clear hb2 HSM) | (go_at_call 13; refine (HFA.out _ HB2.out).mono ?_; rintro e w3 ⟨rfl, rfl⟩; clear HFA) | ((with_reducible refine at_load ?_); refine wpList_ldC (by kernel_rfl) (.tmp 2) rfl (p := w.heap.size) (c := c0) rfl (HBC.out.keep HB1.out).box ?_)
        | (go_at_call 14; refine (HGA.out _ HB2.out).mono ?_; rintro e w4 ⟨B4, b4, rfl, hs4, hb4⟩; have HB4 := hideIt (HB2.out.trans (hb4.mono HB2.out.size)); have HS4 := hideIt hs4; clear hs4 hb4 HGA)
        | (go_at_call 15; refine (HGB.out _ (la7 HB4.out)).mono ?_; rintro e w5 ⟨B5, b5, rfl, hs5, hb5⟩; have HB5 := hideIt ((la7 HB4.out).trans (hb5.mono (la7 HB4.out).size)); have HS5 := hideIt hs5; have HS45 := hideIt ((((HS4.out.below (below_new w4 (.cells (mtC F R C (.slice B4 l.length b4)).toArray 31))).wide (below_new w4 (.cells (mtC F R C (.slice B4 l.length b4)).toArray 31)).size).below hb5).wide hb5.size); have HM5 := hideIt ((Blk.new w4 31 (mtC F R C (.slice B4 l.length b4))).kept hb5 (Blk.new w4 31 (mtC F R C (.slice B4 l.length b4))).lt); clear hs5 hb5 HGB HS4)
        | (go_at_call 16; refine (HEA.out _ (la7 HB5.out)).mono ?_; rintro e w6 ⟨B6, b6, rfl, hs6, hb6⟩; have HB6 := hideIt ((la7 HB5.out).trans (hb6.mono (la7 HB5.out).size)); have HS6 := hideIt hs6; have HB56 := hideIt ((below_new w5 (.cells (mtC F R C (.slice B5 l.length b5)).toArray 31)).trans (hb6.mono (below_new w5 (.cells (mtC F R C (.slice B5 l.length b5)).toArray 31)).size)); have HN6 := hideIt ((Blk.new w5 31 (mtC F R C (.slice B5 l.length b5))).kept hb6 (Blk.new w5 31 (mtC F R C (.slice B5 l.length b5))).lt); have HM6 := hideIt (HM5.out.kept HB56.out HM5.out.lt); have HSA6 := hideIt ((HS45.out.below HB56.out).wide HB56.out.size); have HSB6 := hideIt ((HS5.out.below HB56.out).wide HB56.out.size); clear hs6 hb6 HEA HS45 HS5 HM5)
        | (go_at_call 17; refine (HEB.out _ HB6.out).mono ?_; rintro e w7 ⟨B7, b7, rfl, hs7, hb7⟩; have HB7 := hideIt (HB6.out.trans (hb7.mono HB6.out.size)); have HSY7 := hideIt hs7; have HSX7 := hideIt ((HS6.out.below hb7).wide hb7.size); have HSA7 := hideIt ((HSA6.out.below hb7).wide hb7.size); have HSB7 := hideIt ((HSB6.out.below hb7).wide hb7.size); have hm7 := HM6.out.kept hb7 HM6.out.lt; have hn7 := HN6.out.kept hb7 HN6.out.lt; have ca0 := hm7.cell 0; have ca1 := hm7.cell 1; have ca2 := hm7.cell 2; have ca3 := hm7.cell 3; have cb0 := hn7.cell 0; have cb1 := hn7.cell 1; have cb2 := hn7.cell 2; have cb3 := hn7.cell 3; clear hs7 hb7 hm7 hn7 HEB HSA6 HSB6 HM6 HN6 HS6)
        | (go_at_call 18; refine (HSI.out _ _ _ _ _ HSA7.out HSB7.out).mono ?_; rintro e w8 ⟨rfl, nq, rfl⟩; clear HSI)
        | ((with_reducible refine at_load ?_); refine wpList_ldC (by kernel_rfl) (.tmp 2) rfl (p := w.heap.size) (c := c0) rfl (HBC.out.keep (la7 HB4.out)).box ?_) | ((with_reducible refine at_load ?_); refine wpList_ldC (by kernel_rfl) (.tmp 2) rfl (p := w.heap.size) (c := c0) rfl (HBC.out.keep (la7 HB5.out)).box ?_) | ((with_reducible refine at_load ?_); refine wpList_ldC (by kernel_rfl) (.tmp 2) rfl (p := w.heap.size) (c := c0) rfl (HBC.out.keep HB2.out).box ?_) | ((with_reducible refine at_load ?_); refine wpList_ldC (by kernel_rfl) (.tmp 2) rfl (p := w.heap.size) (c := c0) rfl (HBC.out.keep HB6.out).box ?_))
      obtain ⟨w8, hw8⟩ : ∃ W, W = w7.drewN nq := ⟨_, rfl⟩
      have HB8 := hideIt (show Below W0.heap.size W0 w8 by rw [hw8]; exact below_drewN HB7.out nq)
      have HX8 := hideIt (show Sl w8 w8.heap.size B6 1 X.length (X.map sv) by rw [hw8]; exact HSX7.out)
      have HY8 := hideIt (show Sl w8 w8.heap.size B7 1 X.length (X.map sv) by rw [hw8]; exact HSY7.out)
      rw [← hw8]
      clear hw8 ca0 ca1 ca2 ca3 cb0 cb1 cb2 cb3 HSA7 HSB7 HSX7 HSY7 hnF hnR hnC hnE
      refine loads_begin_n 26 [(25, fun W => Blk W w.heap.size 24 (a0.cs A0 c0))] rfl (by kernel_rfl) ?_
      refine wpAnyL_move (oi := ⟨some 78, _, _, _, _, _⟩) 0 ?_ rfl (by kernel_rfl) (by kernel_rfl) (by kernel_rfl) (by kernel_rfl) (fun _ _ _ h => h) (by kernel_rfl) ?_ ((Hooks.add (HBC.out.keep HB8.out).box (Hooks.nil _ _))) ?_
      rotate_left
      · intro W'; go_simp; first | done | with_reducible rfl
      try simp only [Act.put]
      try simp only [List.setIfInBounds_toArray]
      try simp only [List.set_cons_succ]
      try simp only [List.set_cons_zero]
      refine wpAnyL_move (oi := ⟨some 79, _, _, _, _, _⟩) 1 ?_ rfl (by kernel_rfl) (by kernel_rfl) (by kernel_rfl) (by kernel_rfl) (fun _ _ _ h => h) (by kernel_rfl) ?_ ((Hooks.add (HBC.out.keep HB8.out).box (Hooks.nil _ _))) ?_
      rotate_left
      · intro W'; go_simp; first | done | with_reducible rfl
      try simp only [Act.put]
      try simp only [List.setIfInBounds_toArray]
      try simp only [List.set_cons_succ]
      try simp only [List.set_cons_zero]
      refine wpAnyL_take (oi := ⟨some 80, _, _, _, _, _⟩) 2 25 (a0.v A0 c0) _ rfl (by kernel_rfl) (by kernel_rfl) (by kernel_rfl) (by kernel_rfl) (by kernel_rfl) (by kernel_rfl) (.head _) (fun _ _ _ h => h) (by kernel_rfl) (fun W' hW' => exec_load_blk (cs := a0.cs A0 c0) rfl rfl hW' _ Tryd.underlying24 rfl isz5) (Hooks.add (HBC.out.keep HB8.out).box (Hooks.nil _ _)) ?_
      try simp only [Act.put]
      try simp only [List.setIfInBounds_toArray]
      try simp only [List.set_cons_succ]
      try simp only [List.set_cons_zero]
      refine wpAnyL_take (oi := ⟨some 82, _, _, _, _, _⟩) 4 25 (a0.v A0 c0) _ rfl (by kernel_rfl) (by kernel_rfl) (by kernel_rfl) (by kernel_rfl) (by kernel_rfl) (by kernel_rfl) (.head _) (fun _ _ _ h => h) (by kernel_rfl) (fun W' hW' => exec_load_blk (cs := a0.cs A0 c0) rfl rfl hW' _ Tryd.underlying24 rfl isz5) (Hooks.add (HBC.out.keep HB8.out).box (Hooks.nil _ _)) ?_
      try simp only [Act.put]
      try simp only [List.setIfInBounds_toArray]
      try simp only [List.set_cons_succ]
      try simp only [List.set_cons_zero]
      refine wpAnyL_one (o := ⟨some 81, _, _, _, _, _⟩) 3 (by kernel_rfl) rfl (fun K hK => ?_)
      go_wp2_with (first
        | (go_at_call 19; refine (HVA.out _ (show Below W0.heap.size W0 w8.drew from HB8.out.drew)).mono ?_; rintro e w9 ⟨rfl, hb9⟩))
      have hb89 : Below w8.heap.size w8 w9 := (Below.refl w8.heap.size w8).drew.trans hb9
      have HB9 := hideIt (HB8.out.trans (hb89.mono HB8.out.size))
      have HX9 := hideIt ((HX8.out.below hb89).wide hb89.size)
      have HY9 := hideIt ((HY8.out.below hb89).wide hb89.size)
      refine hK _ _ (Hooks.add (HBC.out.keep HB9.out).box (Hooks.nil _ _)) ?_
      clear hK K hb9 hb89 HX8 HY8 HVA
      try simp only [Act.put]
      try simp only [List.setIfInBounds_toArray]
      try simp only [List.set_cons_succ]
      try simp only [List.set_cons_zero]
      refine wpAnyL_one (o := ⟨some 83, _, _, _, _, _⟩) 5 (by kernel_rfl) rfl (fun K hK => ?_)
      go_wp2_with (first
        | (go_at_call 20; refine (HVB.out _ HB9.out).mono ?_; rintro e w10 ⟨rfl, hb10⟩))
      have HB10 := hideIt (HB9.out.trans (hb10.mono HB9.out.size))
      have HX10 := hideIt ((HX9.out.below hb10).wide hb10.size)
      have HY10 := hideIt ((HY9.out.below hb10).wide hb10.size)
      refine hK _ _ (Hooks.add (HBC.out.keep HB10.out).box (Hooks.nil _ _)) ?_
      clear hK K hb10 HX9 HY9 HVB
      try simp only [Act.put]
      try simp only [List.setIfInBounds_toArray]
      try simp only [List.set_cons_succ]
      try simp only [List.set_cons_zero]
      refine wpAnyL_move (oi := ⟨some 84, _, _, _, _, _⟩) 6 ?_ rfl (by kernel_rfl) (by kernel_rfl) (by kernel_rfl) (by kernel_rfl) (fun _ _ _ h => h) (by kernel_rfl) ?_ ((Hooks.add (HBC.out.keep HB10.out).box (Hooks.nil _ _))) ?_
      rotate_left
      · intro W'; go_simp; first | done | with_reducible rfl
      try simp only [Act.put]
      try simp only [List.setIfInBounds_toArray]
      try simp only [List.set_cons_succ]
      try simp only [List.set_cons_zero]
      refine wpAnyL_move (oi := ⟨some 85, _, _, _, _, _⟩) 7 ?_ rfl (by kernel_rfl) (by kernel_rfl) (by kernel_rfl) (by kernel_rfl) (fun _ _ _ h => h) (by kernel_rfl) ?_ ((Hooks.add (HBC.out.keep HB10.out).box (Hooks.nil _ _))) ?_
      rotate_left
      · intro W'; go_simp; first | done | with_reducible rfl
      try simp only [Act.put]
      try simp only [List.setIfInBounds_toArray]
      try simp only [List.set_cons_succ]
      try simp only [List.set_cons_zero]
      refine wpAnyL_move (oi := ⟨some 86, _, _, _, _, _⟩) 8 ?_ rfl (by kernel_rfl) (by kernel_rfl) (by kernel_rfl) (by kernel_rfl) (fun _ _ _ h => h) (by kernel_rfl) ?_ ((Hooks.add (HBC.out.keep HB10.out).box (Hooks.nil _ _))) ?_
      rotate_left
      · intro W'; go_simp; first | done | with_reducible rfl
      try simp only [Act.put]
      try simp only [List.setIfInBounds_toArray]
      try simp only [List.set_cons_succ]
      try simp only [List.set_cons_zero]
      refine wpAnyL_take (oi := ⟨some 87, _, _, _, _, _⟩) 9 25 (a0.v A0 c0) _ rfl (by kernel_rfl) (by kernel_rfl) (by kernel_rfl) (by kernel_rfl) (by kernel_rfl) (by kernel_rfl) (.head _) (fun _ _ _ h => h) (by kernel_rfl) (fun W' hW' => exec_load_blk (cs := a0.cs A0 c0) rfl rfl hW' _ Tryd.underlying24 rfl isz5) (Hooks.add (HBC.out.keep HB10.out).box (Hooks.nil _ _)) ?_
      try simp only [Act.put]
      try simp only [List.setIfInBounds_toArray]
      try simp only [List.set_cons_succ]
      try simp only [List.set_cons_zero]
      refine wpAnyL_take (oi := ⟨some 89, _, _, _, _, _⟩) 11 25 (a0.v A0 c0) _ rfl (by kernel_rfl) (by kernel_rfl) (by kernel_rfl) (by kernel_rfl) (by kernel_rfl) (by kernel_rfl) (.head _) (fun _ _ _ h => h) (by kernel_rfl) (fun W' hW' => exec_load_blk (cs := a0.cs A0 c0) rfl rfl hW' _ Tryd.underlying24 rfl isz5) (Hooks.add (HBC.out.keep HB10.out).box (Hooks.nil _ _)) ?_
      try simp only [Act.put]
      try simp only [List.setIfInBounds_toArray]
      try simp only [List.set_cons_succ]
      try simp only [List.set_cons_zero]
      refine wpAnyL_one (o := ⟨some 88, _, _, _, _, _⟩) 10 (by kernel_rfl) rfl (fun K hK => ?_)
      go_wp2_with (first
        | (go_at_call 21; refine (HWA.out _ HB10.out).mono ?_; rintro e w11 ⟨rfl, hb11⟩))
      have HB11 := hideIt (HB10.out.trans (hb11.mono HB10.out.size))
      have HX11 := hideIt ((HX10.out.below hb11).wide hb11.size)
      have HY11 := hideIt ((HY10.out.below hb11).wide hb11.size)
      refine hK _ _ (Hooks.add (HBC.out.keep HB11.out).box (Hooks.nil _ _)) ?_
      clear hK K hb11 HX10 HY10 HWA
      try simp only [Act.put]
      try simp only [List.setIfInBounds_toArray]
      try simp only [List.set_cons_succ]
      try simp only [List.set_cons_zero]
      refine wpAnyL_one (o := ⟨some 90, _, _, _, _, _⟩) 12 (by kernel_rfl) rfl (fun K hK => ?_)
      go_wp2_with (first
        | (go_at_call 22; refine (HWB.out _ HB11.out).mono ?_; rintro e w12 ⟨rfl, hb12⟩))
      have HB12 := hideIt (HB11.out.trans (hb12.mono HB11.out.size))
      have HX12 := hideIt ((HX11.out.below hb12).wide hb12.size)
      have HY12 := hideIt ((HY11.out.below hb12).wide hb12.size)
      refine hK _ _ (Hooks.add (HBC.out.keep HB12.out).box (Hooks.nil _ _)) ?_
      clear hK K hb12 HX11 HY11 HWB
      try simp only [Act.put]
      try simp only [List.setIfInBounds_toArray]
      try simp only [List.set_cons_succ]
      try simp only [List.set_cons_zero]
      refine wpAnyL_move (oi := ⟨some 91, _, _, _, _, _⟩) 13 ?_ rfl (by kernel_rfl) (by kernel_rfl) (by kernel_rfl) (by kernel_rfl) (fun _ _ _ h => h) (by kernel_rfl) ?_ ((Hooks.add (HBC.out.keep HB12.out).box (Hooks.nil _ _))) ?_
      rotate_left
      · intro W'; go_simp; first | done | with_reducible rfl
      try simp only [Act.put]
      try simp only [List.setIfInBounds_toArray]
      try simp only [List.set_cons_succ]
      try simp only [List.set_cons_zero]
      refine wpAnyL_move (oi := ⟨some 92, _, _, _, _, _⟩) 14 ?_ rfl (by kernel_rfl) (by kernel_rfl) (by kernel_rfl) (by kernel_rfl) (fun _ _ _ h => h) (by kernel_rfl) ?_ ((Hooks.add (HBC.out.keep HB12.out).box (Hooks.nil _ _))) ?_
      rotate_left
      · intro W'; go_simp; first | done | with_reducible rfl
      try simp only [Act.put]
      try simp only [List.setIfInBounds_toArray]
      try simp only [List.set_cons_succ]
      try simp only [List.set_cons_zero]
      refine wpAnyL_move (oi := ⟨some 93, _, _, _, _, _⟩) 15 ?_ rfl (by kernel_rfl) (by kernel_rfl) (by kernel_rfl) (by kernel_rfl) (fun _ _ _ h => h) (by kernel_rfl) ?_ ((Hooks.add (HBC.out.keep HB12.out).box (Hooks.nil _ _))) ?_
      rotate_left
      · intro W'; go_simp; first | done | with_reducible rfl
      try simp only [Act.put]
      try simp only [List.setIfInBounds_toArray]
      try simp only [List.set_cons_succ]
      try simp only [List.set_cons_zero]
      refine wpAnyL_move (oi := ⟨some 94, _, _, _, _, _⟩) 16 ?_ rfl (by kernel_rfl) (by kernel_rfl) (by kernel_rfl) (by kernel_rfl) (fun _ _ _ h => h) (by kernel_rfl) ?_ ((Hooks.add (HBC.out.keep HB12.out).box (Hooks.nil _ _))) ?_
      rotate_left
      · intro W'; go_simp; first | done | with_reducible rfl
      try simp only [Act.put]
      try simp only [List.setIfInBounds_toArray]
      try simp only [List.set_cons_succ]
      try simp only [List.set_cons_zero]
      refine wpAnyL_move (oi := ⟨some 95, _, _, _, _, _⟩) 17 ?_ rfl (by kernel_rfl) (by kernel_rfl) (by kernel_rfl) (by kernel_rfl) (fun _ _ _ h => h) (by kernel_rfl) ?_ ((Hooks.add (HBC.out.keep HB12.out).box (Hooks.nil _ _))) ?_
      rotate_left
      · intro W'; go_simp; first | done | with_reducible rfl
      try simp only [Act.put]
      try simp only [List.setIfInBounds_toArray]
      try simp only [List.set_cons_succ]
      try simp only [List.set_cons_zero]
      refine wpAnyL_move (oi := ⟨some 96, _, _, _, _, _⟩) 18 ?_ rfl (by kernel_rfl) (by kernel_rfl) (by kernel_rfl) (by kernel_rfl) (fun _ _ _ h => h) (by kernel_rfl) ?_ ((Hooks.add (HBC.out.keep HB12.out).box (Hooks.nil _ _))) ?_
      rotate_left
      · intro W'; go_simp; first | done | with_reducible rfl
      try simp only [Act.put]
      try simp only [List.setIfInBounds_toArray]
      try simp only [List.set_cons_succ]
      try simp only [List.set_cons_zero]
      refine wpAnyL_move (oi := ⟨some 97, _, _, _, _, _⟩) 19 ?_ rfl (by kernel_rfl) (by kernel_rfl) (by kernel_rfl) (by kernel_rfl) (fun _ _ _ h => h) (by kernel_rfl) ?_ ((Hooks.add (HBC.out.keep HB12.out).box (Hooks.nil _ _))) ?_
      rotate_left
      · intro W'; go_simp; first | done | with_reducible rfl
      try simp only [Act.put]
      try simp only [List.setIfInBounds_toArray]
      try simp only [List.set_cons_succ]
      try simp only [List.set_cons_zero]
      refine wpAnyL_move (oi := ⟨some 98, _, _, _, _, _⟩) 20 ?_ rfl (by kernel_rfl) (by kernel_rfl) (by kernel_rfl) (by kernel_rfl) (fun _ _ _ h => h) (by kernel_rfl) ?_ ((Hooks.add (HBC.out.keep HB12.out).box (Hooks.nil _ _))) ?_
      rotate_left
      · intro W'; go_simp; first | done | with_reducible rfl
      try simp only [Act.put]
      try simp only [List.setIfInBounds_toArray]
      try simp only [List.set_cons_succ]
      try simp only [List.set_cons_zero]
      refine wpAnyL_move (oi := ⟨some 99, _, _, _, _, _⟩) 21 ?_ rfl (by kernel_rfl) (by kernel_rfl) (by kernel_rfl) (by kernel_rfl) (fun _ _ _ h => h) (by kernel_rfl) ?_ ((Hooks.add (HBC.out.keep HB12.out).box (Hooks.nil _ _))) ?_
      rotate_left
      · intro W'; go_simp; first | done | with_reducible rfl
      try simp only [Act.put]
      try simp only [List.setIfInBounds_toArray]
      try simp only [List.set_cons_succ]
      try simp only [List.set_cons_zero]
      refine wpAnyL_move (oi := ⟨some 100, _, _, _, _, _⟩) 22 ?_ rfl (by kernel_rfl) (by kernel_rfl) (by kernel_rfl) (by kernel_rfl) (fun _ _ _ h => h) (by kernel_rfl) ?_ ((Hooks.add (HBC.out.keep HB12.out).box (Hooks.nil _ _))) ?_
      rotate_left
      · intro W'; go_simp; first | done | with_reducible rfl
      try simp only [Act.put]
      try simp only [List.setIfInBounds_toArray]
      try simp only [List.set_cons_succ]
      try simp only [List.set_cons_zero]
      refine wpAnyL_one (o := ⟨some 101, _, _, _, _, _⟩) 23 (by kernel_rfl) rfl (fun K hK => ?_)
      go_wp2_with (first
        | (go_at_call 23; refine (HST.out _ _ _ _ _ HX12.out HY12.out).mono ?_; rintro e w13 ⟨rfl, n13, rfl⟩))
      have HB13 := hideIt (below_drewN HB12.out n13)
      refine hK _ _ (Hooks.add (HBC.out.keep HB13.out).box (Hooks.nil _ _)) ?_
      clear hK K HX12 HY12 HST
      try simp only [Act.put]
      try simp only [List.setIfInBounds_toArray]
      try simp only [List.set_cons_succ]
      try simp only [List.set_cons_zero]
      refine wpAnyL_move (oi := ⟨some 102, _, _, _, _, _⟩) 24 ?_ rfl (by kernel_rfl) (by kernel_rfl) (by kernel_rfl) (by kernel_rfl) (fun _ _ _ h => h) (by kernel_rfl) ?_ ((Hooks.add (HBC.out.keep HB13.out).box (Hooks.nil _ _))) ?_
      rotate_left
      · intro W'; go_simp; first | done | with_reducible rfl
      try simp only [Act.put]
      try simp only [List.setIfInBounds_toArray]
      try simp only [List.set_cons_succ]
      try simp only [List.set_cons_zero]
      refine loads_tail 25 (by kernel_rfl) (by kernel_rfl) (by kernel_rfl) (by kernel_rfl) ?_
      simp only [List.drop_succ_cons, List.drop_zero]
      go_wp2_with fail
      go_ret
      exact ⟨rfl, HB0.out.trans (HB13.out.mono HB0.out.size)⟩
    · rw [Bool.eq_false_iff.2 hfa] at HFA
      clear hsm hfa
      go_enter Tryd.func3, Tryd.ntmps3
      go_wp2_with (first | (go_at_call 11; rw [← HWE.out]; refine HSA.out.mono ?_; rintro e w1 ⟨rfl, hb1⟩; have HB1 := hideIt hb1; clear hb1 HSA) | (go_at_call 12; refine (HSM.out _ HB1.out).mono ?_; rintro e w2 ⟨rfl, hb2⟩; have HB2 := hideIt (HB1.out.trans (hb2.mono HB1.out.size)); clear hb2 HSM) | (go_at_call 13; refine (HFA.out _ HB2.out).mono ?_; rintro e w3 ⟨rfl, rfl⟩; clear HFA) | ((with_reducible refine at_load ?_); refine wpList_ldC (by kernel_rfl) (.tmp 2) rfl (p := w.heap.size) (c := c0) rfl (HBC.out.keep HB1.out).box ?_))
      go_ret
      exact ⟨rfl, HB0.out.trans (HB2.out.mono HB0.out.size)⟩
  · rw [Bool.eq_false_iff.2 hsm] at HSM
    clear hsm
    go_enter Tryd.func3, Tryd.ntmps3
    go_wp2_with (first | (go_at_call 11; rw [← HWE.out]; refine HSA.out.mono ?_; rintro e w1 ⟨rfl, hb1⟩; have HB1 := hideIt hb1; clear hb1 HSA) | (go_at_call 12; refine (HSM.out _ HB1.out).mono ?_; rintro e w2 ⟨rfl, hb2⟩; have HB2 := hideIt (HB1.out.trans (hb2.mono HB1.out.size)); clear hb2 HSM) | (go_at_call 13; refine (HFA.out _ HB2.out).mono ?_; rintro e w3 ⟨rfl, rfl⟩; clear HFA) | ((with_reducible refine at_load ?_); refine wpList_ldC (by kernel_rfl) (.tmp 2) rfl (p := w.heap.size) (c := c0) rfl (HBC.out.keep HB1.out).box ?_))
    go_ret
    exact ⟨rfl, HB0.out.trans (HB2.out.mono HB0.out.size)⟩

end Go.Proofs.YtpjgmekpnlpjaaaDoor.erasureEncodeMatchesSpec
