/-
  The walk of the law: the units of the exclusive or of two lists of data units are the exclusive ors of their units
-/
import Derived.Test.YtpjgmekpnlpjaaaDoorLwE
import Derived.Test.YtpjgmekpnlpjaaaDoorArgK
import Derived.Test.YtpjgmekpnlpjaaaDoorEreL
namespace Go.Proofs.YtpjgmekpnlpjaaaDoor.erasureEncodeIsLinear
open Go.RowKit
set_option linter.unusedVariables false

theorem sv_at {X : List (List UInt8)} {k : Nat} (h : k < X.length) : (X.map sv)[k]? = some (.string (str (X.getD k []))) := by
  rw [List.getElem?_map, List.getElem?_eq_getElem h]
  simp [List.getD_eq_getElem?_getD, h]

set_option maxHeartbeats 1600000 in
set_option maxRecDepth 100000 in
theorem walk (a0 : Cd) (A0 : Option Addr) (c0 : Nat) (l1 : List (List UInt8)) (A1 : Option Addr) (c1 : Nat) (l2 : List (List UInt8)) (A2 : Option Addr) (c2 : Nat) (w : World) (x0 : CIn w a0 A0) (x1 : Sl w w.heap.size A1 1 l1.length (l1.map sv)) (m1 : l1.length ≤ 9223372036854775807) (x2 : Sl w w.heap.size A2 1 l2.length (l2.map sv)) (m2 : l2.length ≤ 9223372036854775807) (T1 : Tabs w) :
    Calls Tryd.prog 9 #[a0.v A0 c0, .slice A1 l1.length c1, .slice A2 l2.length c2] w fun e w' => e = .returned (.bool true) ∧ Below w.heap.size w w' := by
  obtain ⟨W0, hW0⟩ : ∃ W, W = w.alloc (.cells (a0.cs A0 c0).toArray 24) := ⟨_, rfl⟩
  have hb0 : Below w.heap.size w W0 := by rw [hW0]; exact below_new w _
  have HB0 := hideIt hb0
  have HBC := hideIt (show BC W0 w.heap.size a0 A0 c0 by rw [hW0]; exact BC.new c0 x0)
  have HT := hideIt (T1.keep hb0)
  have HXA := hideIt ((x1.below hb0).wide hb0.size)
  have HXB := hideIt ((x2.below hb0).wide hb0.size)
  have HWE := hideIt hW0
  have HSA := hideIt (sanity_any W0 HT.out)
  have hnot := not_b
  have HSM := hideIt (fun (W : World) (h : Below W0.heap.size W0 W) => small_any a0 A0 c0 W (HBC.out.cin.keep h))
  have HFA := hideIt (fun (W : World) (h : Below W0.heap.size W0 W) => few_any l1 m1 A1 c1 W ((HXA.out.below h).wide h.size))
  have HFB := hideIt (fun (W : World) (h : Below W0.heap.size W0 W) => few_any l2 m2 A2 c2 W ((HXB.out.below h).wide h.size))
  have hq1 := i_neq 3 .i64 (l1.length : Int) (l2.length : Int)
  have HM1 := hideIt m1
  have HM2 := hideIt m2
  clear hW0 hb0 x0 x1 x2 T1 m1 m2
  by_cases hsm : smB a0 = true
  · rw [hsm] at HSM
    by_cases hfa : fewB l1 = true
    · rw [hfa] at HFA
      by_cases hfb : fewB l2 = true
      · rw [hfb] at HFB
        by_cases hab : l1.length = l2.length
        · rw [decide_eq_false (show ¬ (l1.length : Int) ≠ (l2.length : Int) by omega)] at hq1
          obtain ⟨h24, HSA64⟩ := And.intro (fewB_is hfa).1 (hideIt (fewB_is hfa).2)
          have HSB64 := hideIt (fewB_is hfb).2
          have HAB := hideIt hab
          have he0 : binOp .neq 32 (.int .i64 0) (.int .i64 0) = pure (.bool false) := by rw [i_neq]; rfl
          have he1 : binOp .neq 32 (.int .i64 1) (.int .i64 0) = pure (.bool true) := by rw [i_neq]; rfl
          have hsm0 := hsm
          clear hsm hfa hfb hab
          go_enter Tryd.func9, Tryd.ntmps9
          go_wp2_with (first | (go_at_call 11; rw [← HWE.out]; refine HSA.out.mono ?_; rintro e w1 ⟨rfl, hb1⟩; have HB1 := hideIt hb1; clear hb1 HSA) | (go_at_call 12; refine (HSM.out _ HB1.out).mono ?_; rintro e w2 ⟨rfl, hb2⟩; have HB2 := hideIt (HB1.out.trans (hb2.mono HB1.out.size)); clear hb2 HSM) | (go_at_call 13; refine (HFA.out _ HB2.out).mono ?_; rintro e w3 ⟨rfl, rfl⟩; clear HFA) | (go_at_call 13; refine (HFB.out _ HB2.out).mono ?_; rintro e w3 ⟨rfl, rfl⟩; clear HFB) | ((with_reducible refine at_load ?_); refine wpList_ldC (by kernel_rfl) (.tmp 3) rfl (p := w.heap.size) (c := c0) rfl (HBC.out.keep HB1.out).box ?_))
          go_loopg [6, 8, 9, 10, 11] l1.length (fun gk s6 s8 s9 s10 s11 wr => ∃ k : Nat, k + gk = l1.length ∧ s6 = .bool false ∧ s9 = .int .i64 (k : Int) ∧ Aside (Below w2.heap.size w2 wr) ∧ Aside (wr.ownsRow w2.heap.size 9 1 s8 k (((List.zipWith xr l1 l2).take k).map sv)) ∧ Aside ((l1.take k).map List.length = (l2.take k).map List.length))
          case atStart => exact ⟨0, by omega, rfl, rfl, Below.refl _ _, World.ownsRow_nil _ _ _ _, rfl⟩
          case round =>
            obtain ⟨k, hk, rfl, rfl, HLW, HO, HLE⟩ := hrel
            obtain ⟨w5, rfl⟩ : ∃ x, x = wr := ⟨wr, rfl⟩
            obtain ⟨A8, c8, e8, _, _⟩ := own_form HO.out
            subst e8
            have HW5 := hideIt (HB2.out.trans (HLW.out.mono HB2.out.size))
            by_cases hlt : k < l1.length
            · have hlt2 : k < l2.length := by rw [← HAB.out]; exact hlt
              obtain ⟨b1, o1, hA1, hbb1, hcs1⟩ := HXA.out.strs (by omega)
              obtain ⟨b2, o2, hA2, hbb2, hcs2⟩ := HXB.out.strs (by omega)
              have cca : w5.cell? ⟨b1, o1 + k, none⟩ = some (.string (str l1[k])) := (HW5.out.cell (p := ⟨b1, o1 + k, none⟩) hbb1).trans (hcs1 k hlt)
              have ccb : w5.cell? ⟨b2, o2 + k, none⟩ = some (.string (str l2[k])) := (HW5.out.cell (p := ⟨b2, o2 + k, none⟩) hbb2).trans (hcs2 k hlt2)
              have HXO := hideIt (fun W => rxor_any l1[k] l2[k] (Nat.le_trans (HSA64.out _ (List.getElem_mem hlt)) (by decide)) W)
              have HZN := hideIt (show (List.zipWith xr l1 l2).take (k + 1) = (List.zipWith xr l1 l2).take k ++ [xr l1[k] l2[k]] by
                rw [take_snoc _ k (by rw [List.length_zipWith]; omega), List.getElem_zipWith])
              have HLN := hideIt (fun h : l1[k].length = l2[k].length => show (l1.take (k + 1)).map List.length = (l2.take (k + 1)).map List.length by
                rw [take_snoc l1 k hlt, take_snoc l2 k hlt2, List.map_append, List.map_append, HLE.out]
                simp [h])
              have HXT := hideIt (fun h : l1[k].length = l2[k].length => show str (xrS l1[k] l2[k]) = str (xr l1[k] l2[k]) ∧ xrE l1[k] l2[k] = 0 by unfold xrS xrE; rw [if_pos h, if_pos h]; exact ⟨rfl, rfl⟩)
              have HXF := hideIt (fun h : ¬ l1[k].length = l2[k].length => show xrE l1[k] l2[k] = 1 by unfold xrE; rw [if_neg h])
              subst hA1 hA2
              have hinc := inc_c 3 k (by omega)
              have hki : (k : Int) < (l1.length : Int) := by omega
              have hki2 : (k : Int) < (l2.length : Int) := by omega
              have hw1 : b1 < w5.heap.size := Nat.lt_of_lt_of_le hbb1 HW5.out.size
              have hw2 : b2 < w5.heap.size := Nat.lt_of_lt_of_le hbb2 HW5.out.size
              have HWX := hideIt (And.intro hw1 hw2)
              generalize hxs : str (xrS l1[k] l2[k]) = zs at *
              generalize hxe : xrE l1[k] l2[k] = ze at *
              generalize str l1[k] = sa at *
              generalize str l2[k] = sb at *
              generalize l1[k] = ua at *
              generalize l2[k] = ub at *
              clear hcs1 hcs2 hbb1 hbb2 hxs hxe hw1 hw2 hlt hlt2
              go_wp2_with fail
              refine loads_begin_n 14 [(12, fun W => W.cell? ⟨b1, o1 + k, none⟩ = some (.string sa)), (12, fun W => W.cell? ⟨b2, o2 + k, none⟩ = some (.string sb))] rfl (by kernel_rfl) ?_
              refine wpAnyL_move (oi := ⟨some 50, _, _, _, _, _⟩) 0 ?_ rfl (by kernel_rfl) (by kernel_rfl) (by kernel_rfl) (by kernel_rfl) (fun _ _ _ h => h) (by kernel_rfl) ?_ ((Hooks.add cca (Hooks.add ccb (Hooks.nil _ _)))) ?_
              rotate_left
              · intro W'; go_simp; first | done | with_reducible rfl
              try simp only [Act.put]
              try simp only [List.setIfInBounds_toArray]
              try simp only [List.set_cons_succ]
              try simp only [List.set_cons_zero]
              refine wpAnyL_move (oi := ⟨some 51, _, _, _, _, _⟩) 1 ?_ rfl (by kernel_rfl) (by kernel_rfl) (by kernel_rfl) (by kernel_rfl) (fun _ _ _ h => h) (by kernel_rfl) ?_ ((Hooks.add cca (Hooks.add ccb (Hooks.nil _ _)))) ?_
              rotate_left
              · intro W'; go_simp; first | done | with_reducible rfl
              try simp only [Act.put]
              try simp only [List.setIfInBounds_toArray]
              try simp only [List.set_cons_succ]
              try simp only [List.set_cons_zero]
              refine wpAnyL_move (oi := ⟨some 52, _, _, _, _, _⟩) 2 ?_ rfl (by kernel_rfl) (by kernel_rfl) (by kernel_rfl) (by kernel_rfl) (fun _ _ _ h => h) (by kernel_rfl) ?_ ((Hooks.add cca (Hooks.add ccb (Hooks.nil _ _)))) ?_
              rotate_left
              · intro W'; go_simp; first | done | with_reducible rfl
              try simp only [Act.put]
              try simp only [List.setIfInBounds_toArray]
              try simp only [List.set_cons_succ]
              try simp only [List.set_cons_zero]
              refine wpAnyL_take (oi := ⟨some 53, _, _, _, _, _⟩) 3 12 (.string sa) _ rfl (by kernel_rfl) (by kernel_rfl) (by kernel_rfl) (by kernel_rfl) (by kernel_rfl) (by kernel_rfl) (.head _) (fun _ _ _ h => h) (by kernel_rfl) (fun W' hW' => by (try dsimp only at hW'); go_simp) (Hooks.add cca (Hooks.add ccb (Hooks.nil _ _))) ?_
              try simp only [Act.put]
              try simp only [List.setIfInBounds_toArray]
              try simp only [List.set_cons_succ]
              try simp only [List.set_cons_zero]
              refine wpAnyL_move (oi := ⟨some 54, _, _, _, _, _⟩) 4 ?_ rfl (by kernel_rfl) (by kernel_rfl) (by kernel_rfl) (by kernel_rfl) (fun _ _ _ h => h) (by kernel_rfl) ?_ ((Hooks.add cca (Hooks.add ccb (Hooks.nil _ _)))) ?_
              rotate_left
              · intro W'; go_simp; first | done | with_reducible rfl
              try simp only [Act.put]
              try simp only [List.setIfInBounds_toArray]
              try simp only [List.set_cons_succ]
              try simp only [List.set_cons_zero]
              refine wpAnyL_move (oi := ⟨some 55, _, _, _, _, _⟩) 5 ?_ rfl (by kernel_rfl) (by kernel_rfl) (by kernel_rfl) (by kernel_rfl) (fun _ _ _ h => h) (by kernel_rfl) ?_ ((Hooks.add cca (Hooks.add ccb (Hooks.nil _ _)))) ?_
              rotate_left
              · intro W'; go_simp; first | done | with_reducible rfl
              try simp only [Act.put]
              try simp only [List.setIfInBounds_toArray]
              try simp only [List.set_cons_succ]
              try simp only [List.set_cons_zero]
              refine wpAnyL_move (oi := ⟨some 56, _, _, _, _, _⟩) 6 ?_ rfl (by kernel_rfl) (by kernel_rfl) (by kernel_rfl) (by kernel_rfl) (fun _ _ _ h => h) (by kernel_rfl) ?_ ((Hooks.add cca (Hooks.add ccb (Hooks.nil _ _)))) ?_
              rotate_left
              · intro W'; go_simp; first | done | with_reducible rfl
              try simp only [Act.put]
              try simp only [List.setIfInBounds_toArray]
              try simp only [List.set_cons_succ]
              try simp only [List.set_cons_zero]
              refine wpAnyL_take (oi := ⟨some 57, _, _, _, _, _⟩) 7 12 (.string sb) _ rfl (by kernel_rfl) (by kernel_rfl) (by kernel_rfl) (by kernel_rfl) (by kernel_rfl) (by kernel_rfl) (.tail _ (.head _)) (fun _ _ _ h => h) (by kernel_rfl) (fun W' hW' => by (try dsimp only at hW'); go_simp) (Hooks.add cca (Hooks.add ccb (Hooks.nil _ _))) ?_
              try simp only [Act.put]
              try simp only [List.setIfInBounds_toArray]
              try simp only [List.set_cons_succ]
              try simp only [List.set_cons_zero]
              refine wpAnyL_one (o := ⟨some 58, _, _, _, _, _⟩) 8 (by kernel_rfl) rfl (fun K hK => ?_)
              go_wp2_with (first
                | (go_at_call 37; refine (HXO.out _).mono ?_; rintro e w6 ⟨rfl, hb6⟩))
              have cca6 : w6.cell? ⟨b1, o1 + k, none⟩ = some (.string sa) := (hb6.cell (p := ⟨b1, o1 + k, none⟩) HWX.out.1).trans cca
              have ccb6 : w6.cell? ⟨b2, o2 + k, none⟩ = some (.string sb) := (hb6.cell (p := ⟨b2, o2 + k, none⟩) HWX.out.2).trans ccb
              refine hK _ _ (Hooks.add cca6 (Hooks.add ccb6 (Hooks.nil _ _))) ?_
              clear hK K
              have HL6 := hideIt (HLW.out.trans ((show Below w5.heap.size w5 w6 from (Below.refl w5.heap.size w5).drew.trans hb6).mono HLW.out.size))
              have HO6 := hideIt (own_kept HO.out (show Below w5.heap.size w5 w6 from (Below.refl w5.heap.size w5).drew.trans hb6))
              refine wpAnyL_move (oi := ⟨some 49, _, _, _, _, _⟩) 9 ?_ rfl (by kernel_rfl) (by kernel_rfl) (by kernel_rfl) (by kernel_rfl) (fun _ _ _ h => h) (by kernel_rfl) ?_ ((Hooks.add cca6 (Hooks.add ccb6 (Hooks.nil _ _)))) ?_
              rotate_left
              · intro W'; go_simp; first | done | with_reducible rfl
              try simp only [Act.put]
              try simp only [List.setIfInBounds_toArray]
              try simp only [List.set_cons_succ]
              try simp only [List.set_cons_zero]
              refine wpAnyL_move (oi := ⟨some 59, _, _, _, _, _⟩) 10 ?_ rfl (by kernel_rfl) (by kernel_rfl) (by kernel_rfl) (by kernel_rfl) (fun _ _ _ h => h) (by kernel_rfl) ?_ ((Hooks.add cca6 (Hooks.add ccb6 (Hooks.nil _ _)))) ?_
              rotate_left
              · intro W'; go_simp; first | done | with_reducible rfl
              try simp only [Act.put]
              try simp only [List.setIfInBounds_toArray]
              try simp only [List.set_cons_succ]
              try simp only [List.set_cons_zero]
              refine wpAnyL_move (oi := ⟨some 60, _, _, _, _, _⟩) 11 ?_ rfl (by kernel_rfl) (by kernel_rfl) (by kernel_rfl) (by kernel_rfl) (fun _ _ _ h => h) (by kernel_rfl) ?_ ((Hooks.add cca6 (Hooks.add ccb6 (Hooks.nil _ _)))) ?_
              rotate_left
              · intro W'; go_simp; first | done | with_reducible rfl
              try simp only [Act.put]
              try simp only [List.setIfInBounds_toArray]
              try simp only [List.set_cons_succ]
              try simp only [List.set_cons_zero]
              refine loads_tail 12 (by kernel_rfl) (by kernel_rfl) (by kernel_rfl) (by kernel_rfl) ?_
              simp only [List.drop_succ_cons, List.drop_zero]
              clear cca ccb cca6 ccb6 hb6 HXO
              by_cases hle : ua.length = ub.length
              · obtain ⟨e1, e2⟩ := HXT.out hle
                subst e1 e2
                have HLN2 := hideIt (HLN.out hle)
                clear HXT HXF hle HLN
                go_wp2_with (first
                  | ((with_reducible refine at_append ?_); refine wpList_apS (n := k) rfl (.tmp 64) (.tmp 66) rfl rfl HO6.out rfl (by omega) HL6.out.size ?_; intro v7 w7 HO7 HG7 HA7 HB7))
                go_roundg (gk - 1)
                case measure => omega
                case rel => exact ⟨k + 1, by omega, rfl, by go_num, HL6.out.trans HB7.out, by rw [HZN.out]; exact HO7.out, HLN2.out⟩
              · have e2 := HXF.out hle
                subst e2
                clear HXT HXF hle HLN
                go_wp2_with fail
                go_ret
                exact ⟨rfl, HB0.out.trans ((HB2.out.trans (HL6.out.mono HB2.out.size)).mono HB0.out.size)⟩
            · have hki : ¬ (k : Int) < (l1.length : Int) := by omega
              have hke : k = l1.length := by omega
              subst hke
              have hl : l1.map List.length = l2.map List.length := by
                have := HLE.out
                rwa [List.take_of_length_le (Nat.le_refl _), List.take_of_length_le (by have := HAB.out; omega)] at this
              have hzl : (List.zipWith xr l1 l2).length = l1.length := by rw [List.length_zipWith]; have := HAB.out; omega
              have ho8 : w5.ownsRow w2.heap.size 9 1 (.slice A8 l1.length c8) l1.length ((List.zipWith xr l1 l2).map sv) := by
                have := HO.out
                rwa [List.take_of_length_le (by omega)] at this
              have HS8 := hideIt (Sl.of_own ho8)
              obtain ⟨z1, z2, z3, z4⟩ := enc_lin a0 hl
              have HX64 := hideIt (enc_short a0 HSA64.out)
              have hzb : ∀ u ∈ List.zipWith xr l1 l2, u.length ≤ 100000 := fun u hu => by
                obtain ⟨i, hi, rfl⟩ := List.getElem_of_mem hu
                rw [List.getElem_zipWith]
                have h1 := HSA64.out l1[i] (List.getElem_mem _)
                unfold xr
                rw [List.length_zipWith]
                omega
              obtain ⟨X, hX⟩ : ∃ X, (encR a0 l1).1 = X := ⟨_, rfl⟩
              obtain ⟨Y, hY⟩ : ∃ X, (encR a0 l2).1 = X := ⟨_, rfl⟩
              obtain ⟨Z, hZ⟩ : ∃ X, (encR a0 (List.zipWith xr l1 l2)).1 = X := ⟨_, rfl⟩
              obtain ⟨ee, hee⟩ : ∃ X, (encR a0 (List.zipWith xr l1 l2)).2 = X := ⟨_, rfl⟩
              rw [hX, hY] at z4
              rw [hX, hY, hZ] at z3
              rw [hX] at HX64
              obtain ⟨N, hN⟩ : ∃ N, Z.length = N := ⟨_, rfl⟩
              have hXY : X.length = Y.length := by simpa using congrArg List.length z4
              have hXN : X.length = N := by rw [← hN, z3, List.length_zipWith]; omega
              have hYN : Y.length = N := by omega
              have HKE := hideIt (fun k (h : k < N) => show xrS (X.getD k []) (Y.getD k []) = Z.getD k [] ∧ (X.getD k []).length ≤ 100000 by
                have q1 : X.getD k [] = X[k] := by simp [List.getD_eq_getElem?_getD, show k < X.length by omega]
                have q2 : Y.getD k [] = Y[k] := by simp [List.getD_eq_getElem?_getD, show k < Y.length by omega]
                have q3 : Z.getD k [] = Z[k] := by simp [List.getD_eq_getElem?_getD, show k < Z.length by omega]
                have q4 : X[k].length = Y[k].length := by
                  have : (X.map List.length)[k]'(by simp; omega) = (Y.map List.length)[k]'(by simp; omega) := by simp only [z4]
                  simpa using this
                rw [q1, q2, q3]
                refine ⟨?_, Nat.le_trans (HX64.out _ (List.getElem_mem _)) (by decide)⟩
                unfold xrS
                rw [if_pos q4]
                simp only [z3, List.getElem_zipWith])
              have HXK := hideIt (fun k (h : k < N) => show (X.map sv)[k]? = some (.string (str (X.getD k []))) ∧ (Y.map sv)[k]? = some (.string (str (Y.getD k []))) ∧ (Z.map sv)[k]? = some (.string (str (Z.getD k []))) from
                ⟨sv_at (by omega), sv_at (by omega), sv_at (by omega)⟩)
              have HEA := hideIt (fun (W : World) (h : Below W0.heap.size W0 W) => enc_len a0 A0 c0 W (HT.out.keep h) (HBC.out.cin.keep h) l1 (by omega) (fun u hu => Nat.le_trans (HSA64.out u hu) (by decide)) A1 c1 ((HXA.out.below h).wide h.size) X N ee hX hXN (z1.trans hee))
              have HEB := hideIt (fun (W : World) (h : Below W0.heap.size W0 W) => enc_len a0 A0 c0 W (HT.out.keep h) (HBC.out.cin.keep h) l2 (by have := HAB.out; omega) (fun u hu => Nat.le_trans (HSB64.out u hu) (by decide)) A2 c2 ((HXB.out.below h).wide h.size) Y N ee hY hYN (z2.trans hee))
              have HEZ := hideIt (fun (W : World) (h : Below W0.heap.size W0 W) (hs : Sl W W.heap.size A8 1 l1.length ((List.zipWith xr l1 l2).map sv)) => by
                have := enc_len a0 A0 c0 W (HT.out.keep h) (HBC.out.cin.keep h) (List.zipWith xr l1 l2) (by omega) hzb A8 c8 (by rw [hzl]; exact hs) Z N ee hZ hN hee
                rwa [hzl] at this)
              have hne : binOp .neq 32 (.int .i64 ee) (.int .i64 ee) = pure (.bool false) := by rw [i_neq, decide_eq_false (fun h => h rfl)]
              have hnN : binOp .neq 3 (.int .i64 (N : Int)) (.int .i64 (N : Int)) = pure (.bool false) := by rw [i_neq, decide_eq_false (fun h => h rfl)]
              have HNB := hideIt (show N ≤ 1000 by
                have h1 : X.length ≤ l1.length + a0.par.length := by
                  rw [← hX]; unfold encR; split
                  · simp
                  · simp
                have h2 := (smB_sm hsm0).par
                omega)
              clear hX hY hZ hee hN hXY hXN hYN z1 z2 z3 z4 hl hzl ho8 hzb HO HLE HSA64 HSB64 HX64 hsm0
              generalize List.zipWith xr l1 l2 = S at *
              go_wp2_with (first
                | (go_at_call 16; refine (HEA.out _ HW5.out).mono ?_; rintro e w6 ⟨B6, b6, rfl, ho6, hb6⟩; have HB6 := hideIt (HW5.out.trans (hb6.mono HW5.out.size)); have HSX6 := hideIt (Sl.of_own ho6); have HS6 := hideIt ((HS8.out.below hb6).wide hb6.size); clear ho6 hb6 HEA)
                | (go_at_call 16; refine (HEB.out _ HB6.out).mono ?_; rintro e w7 ⟨B7, b7, rfl, ho7, hb7⟩; have HB7 := hideIt (HB6.out.trans (hb7.mono HB6.out.size)); have HSX7 := hideIt ((HSX6.out.below hb7).wide hb7.size); have HSY7 := hideIt (Sl.of_own ho7); have HS7 := hideIt ((HS6.out.below hb7).wide hb7.size); clear ho7 hb7 HEB)
                | (go_at_call 16; refine (HEZ.out _ HB7.out HS7.out).mono ?_; rintro e w8 ⟨B8, b8, rfl, ho8, hb8⟩; have HB8 := hideIt (HB7.out.trans (hb8.mono HB7.out.size)); have HSX8 := hideIt ((HSX7.out.below hb8).wide hb8.size); have HSY8 := hideIt ((HSY7.out.below hb8).wide hb8.size); have HSZ8 := hideIt (Sl.of_own ho8); clear ho8 hb8 HEZ)
                | ((with_reducible refine at_load ?_); refine wpList_ldC (by kernel_rfl) (.tmp 3) rfl (p := w.heap.size) (c := c0) rfl (HBC.out.keep HW5.out).box ?_) | ((with_reducible refine at_load ?_); refine wpList_ldC (by kernel_rfl) (.tmp 3) rfl (p := w.heap.size) (c := c0) rfl (HBC.out.keep HB6.out).box ?_) | ((with_reducible refine at_load ?_); refine wpList_ldC (by kernel_rfl) (.tmp 3) rfl (p := w.heap.size) (c := c0) rfl (HBC.out.keep HB7.out).box ?_))
              go_loopg [6, 18, 19, 20] N (fun gk s6 s18 s19 s20 wr => ∃ k : Nat, k + gk = N ∧ s6 = .bool false ∧ s18 = .int .i64 (k : Int) ∧ Aside (Below w8.heap.size w8 wr))
              case atStart => exact ⟨0, by omega, rfl, rfl, Below.refl _ _⟩
              case round =>
                obtain ⟨k, hk, rfl, rfl, HLW9⟩ := hrel
                obtain ⟨w9, rfl⟩ : ∃ x, x = wr := ⟨wr, rfl⟩
                have HW9 := hideIt (HB8.out.trans (HLW9.out.mono HB8.out.size))
                by_cases hlt : k < N
                · obtain ⟨b1, o1, v1, hA1, hbb1, hv1, hcc1⟩ := HSX8.out.at_ hlt
                  obtain ⟨b2, o2, v2, hA2, hbb2, hv2, hcc2⟩ := HSY8.out.at_ hlt
                  obtain ⟨b3, o3, v3, hA3, hbb3, hv3, hcc3⟩ := HSZ8.out.at_ hlt
                  obtain ⟨y1, y2, y3⟩ := HXK.out k hlt
                  rw [y1] at hv1
                  rw [y2] at hv2
                  rw [y3] at hv3
                  injection hv1 with hv1
                  injection hv2 with hv2
                  injection hv3 with hv3
                  obtain ⟨y4, y5⟩ := HKE.out k hlt
                  have HXO := hideIt (fun W => rxor_any (X.getD k []) (Y.getD k []) y5 W)
                  rw [y4] at HXO
                  subst hA1 hA2 hA3 hv1 hv2 hv3
                  have cca : w9.cell? ⟨b1, o1 + k, none⟩ = some (.string (str (X.getD k []))) := (HLW9.out.cell (p := ⟨b1, o1 + k, none⟩) hbb1).trans hcc1
                  have ccb : w9.cell? ⟨b2, o2 + k, none⟩ = some (.string (str (Y.getD k []))) := (HLW9.out.cell (p := ⟨b2, o2 + k, none⟩) hbb2).trans hcc2
                  have ccz : w9.cell? ⟨b3, o3 + k, none⟩ = some (.string (str (Z.getD k []))) := (HLW9.out.cell (p := ⟨b3, o3 + k, none⟩) hbb3).trans hcc3
                  have hinc := inc_c 3 k (by have := HNB.out; omega)
                  have hki : (k : Int) < (N : Int) := by omega
                  have HWX := hideIt (show b1 < w9.heap.size ∧ b2 < w9.heap.size ∧ b3 < w9.heap.size from ⟨Nat.lt_of_lt_of_le hbb1 HLW9.out.size, Nat.lt_of_lt_of_le hbb2 HLW9.out.size, Nat.lt_of_lt_of_le hbb3 HLW9.out.size⟩)
                  generalize xrE (X.getD k []) (Y.getD k []) = ze at *
                  generalize str (X.getD k []) = sa at *
                  generalize str (Y.getD k []) = sb at *
                  generalize str (Z.getD k []) = zs at *
                  clear hcc1 hcc2 hcc3 hbb1 hbb2 hbb3 y1 y2 y3 y4 y5
                  go_wp2_with fail
                  refine loads_begin_n 14 [(12, fun W => W.cell? ⟨b1, o1 + k, none⟩ = some (.string sa)), (12, fun W => W.cell? ⟨b2, o2 + k, none⟩ = some (.string sb))] rfl (by kernel_rfl) ?_
                  refine wpAnyL_move (oi := ⟨some 115, _, _, _, _, _⟩) 0 ?_ rfl (by kernel_rfl) (by kernel_rfl) (by kernel_rfl) (by kernel_rfl) (fun _ _ _ h => h) (by kernel_rfl) ?_ ((Hooks.add cca (Hooks.add ccb (Hooks.nil _ _)))) ?_
                  rotate_left
                  · intro W'; go_simp; first | done | with_reducible rfl
                  try simp only [Act.put]
                  try simp only [List.setIfInBounds_toArray]
                  try simp only [List.set_cons_succ]
                  try simp only [List.set_cons_zero]
                  refine wpAnyL_move (oi := ⟨some 116, _, _, _, _, _⟩) 1 ?_ rfl (by kernel_rfl) (by kernel_rfl) (by kernel_rfl) (by kernel_rfl) (fun _ _ _ h => h) (by kernel_rfl) ?_ ((Hooks.add cca (Hooks.add ccb (Hooks.nil _ _)))) ?_
                  rotate_left
                  · intro W'; go_simp; first | done | with_reducible rfl
                  try simp only [Act.put]
                  try simp only [List.setIfInBounds_toArray]
                  try simp only [List.set_cons_succ]
                  try simp only [List.set_cons_zero]
                  refine wpAnyL_move (oi := ⟨some 117, _, _, _, _, _⟩) 2 ?_ rfl (by kernel_rfl) (by kernel_rfl) (by kernel_rfl) (by kernel_rfl) (fun _ _ _ h => h) (by kernel_rfl) ?_ ((Hooks.add cca (Hooks.add ccb (Hooks.nil _ _)))) ?_
                  rotate_left
                  · intro W'; go_simp; first | done | with_reducible rfl
                  try simp only [Act.put]
                  try simp only [List.setIfInBounds_toArray]
                  try simp only [List.set_cons_succ]
                  try simp only [List.set_cons_zero]
                  refine wpAnyL_take (oi := ⟨some 118, _, _, _, _, _⟩) 3 12 (.string sa) _ rfl (by kernel_rfl) (by kernel_rfl) (by kernel_rfl) (by kernel_rfl) (by kernel_rfl) (by kernel_rfl) (.head _) (fun _ _ _ h => h) (by kernel_rfl) (fun W' hW' => by (try dsimp only at hW'); go_simp) (Hooks.add cca (Hooks.add ccb (Hooks.nil _ _))) ?_
                  try simp only [Act.put]
                  try simp only [List.setIfInBounds_toArray]
                  try simp only [List.set_cons_succ]
                  try simp only [List.set_cons_zero]
                  refine wpAnyL_move (oi := ⟨some 119, _, _, _, _, _⟩) 4 ?_ rfl (by kernel_rfl) (by kernel_rfl) (by kernel_rfl) (by kernel_rfl) (fun _ _ _ h => h) (by kernel_rfl) ?_ ((Hooks.add cca (Hooks.add ccb (Hooks.nil _ _)))) ?_
                  rotate_left
                  · intro W'; go_simp; first | done | with_reducible rfl
                  try simp only [Act.put]
                  try simp only [List.setIfInBounds_toArray]
                  try simp only [List.set_cons_succ]
                  try simp only [List.set_cons_zero]
                  refine wpAnyL_move (oi := ⟨some 120, _, _, _, _, _⟩) 5 ?_ rfl (by kernel_rfl) (by kernel_rfl) (by kernel_rfl) (by kernel_rfl) (fun _ _ _ h => h) (by kernel_rfl) ?_ ((Hooks.add cca (Hooks.add ccb (Hooks.nil _ _)))) ?_
                  rotate_left
                  · intro W'; go_simp; first | done | with_reducible rfl
                  try simp only [Act.put]
                  try simp only [List.setIfInBounds_toArray]
                  try simp only [List.set_cons_succ]
                  try simp only [List.set_cons_zero]
                  refine wpAnyL_move (oi := ⟨some 121, _, _, _, _, _⟩) 6 ?_ rfl (by kernel_rfl) (by kernel_rfl) (by kernel_rfl) (by kernel_rfl) (fun _ _ _ h => h) (by kernel_rfl) ?_ ((Hooks.add cca (Hooks.add ccb (Hooks.nil _ _)))) ?_
                  rotate_left
                  · intro W'; go_simp; first | done | with_reducible rfl
                  try simp only [Act.put]
                  try simp only [List.setIfInBounds_toArray]
                  try simp only [List.set_cons_succ]
                  try simp only [List.set_cons_zero]
                  refine wpAnyL_take (oi := ⟨some 122, _, _, _, _, _⟩) 7 12 (.string sb) _ rfl (by kernel_rfl) (by kernel_rfl) (by kernel_rfl) (by kernel_rfl) (by kernel_rfl) (by kernel_rfl) (.tail _ (.head _)) (fun _ _ _ h => h) (by kernel_rfl) (fun W' hW' => by (try dsimp only at hW'); go_simp) (Hooks.add cca (Hooks.add ccb (Hooks.nil _ _))) ?_
                  try simp only [Act.put]
                  try simp only [List.setIfInBounds_toArray]
                  try simp only [List.set_cons_succ]
                  try simp only [List.set_cons_zero]
                  refine wpAnyL_one (o := ⟨some 123, _, _, _, _, _⟩) 8 (by kernel_rfl) rfl (fun K hK => ?_)
                  go_wp2_with (first
                    | (go_at_call 37; refine (HXO.out _).mono ?_; rintro e w10 ⟨rfl, hb10⟩))
                  have cca6 : w10.cell? ⟨b1, o1 + k, none⟩ = some (.string sa) := (hb10.cell (p := ⟨b1, o1 + k, none⟩) HWX.out.1).trans cca
                  have ccb6 : w10.cell? ⟨b2, o2 + k, none⟩ = some (.string sb) := (hb10.cell (p := ⟨b2, o2 + k, none⟩) HWX.out.2.1).trans ccb
                  have ccz6 : w10.cell? ⟨b3, o3 + k, none⟩ = some (.string zs) := (hb10.cell (p := ⟨b3, o3 + k, none⟩) HWX.out.2.2).trans ccz
                  refine hK _ _ (Hooks.add cca6 (Hooks.add ccb6 (Hooks.nil _ _))) ?_
                  clear hK K
                  have HL10 := hideIt (HLW9.out.trans ((show Below w9.heap.size w9 w10 from (Below.refl w9.heap.size w9).drew.trans hb10).mono HLW9.out.size))
                  refine wpAnyL_move (oi := ⟨some 114, _, _, _, _, _⟩) 9 ?_ rfl (by kernel_rfl) (by kernel_rfl) (by kernel_rfl) (by kernel_rfl) (fun _ _ _ h => h) (by kernel_rfl) ?_ ((Hooks.add cca6 (Hooks.add ccb6 (Hooks.nil _ _)))) ?_
                  rotate_left
                  · intro W'; go_simp; first | done | with_reducible rfl
                  try simp only [Act.put]
                  try simp only [List.setIfInBounds_toArray]
                  try simp only [List.set_cons_succ]
                  try simp only [List.set_cons_zero]
                  refine wpAnyL_move (oi := ⟨some 124, _, _, _, _, _⟩) 10 ?_ rfl (by kernel_rfl) (by kernel_rfl) (by kernel_rfl) (by kernel_rfl) (fun _ _ _ h => h) (by kernel_rfl) ?_ ((Hooks.add cca6 (Hooks.add ccb6 (Hooks.nil _ _)))) ?_
                  rotate_left
                  · intro W'; go_simp; first | done | with_reducible rfl
                  try simp only [Act.put]
                  try simp only [List.setIfInBounds_toArray]
                  try simp only [List.set_cons_succ]
                  try simp only [List.set_cons_zero]
                  refine wpAnyL_move (oi := ⟨some 125, _, _, _, _, _⟩) 11 ?_ rfl (by kernel_rfl) (by kernel_rfl) (by kernel_rfl) (by kernel_rfl) (fun _ _ _ h => h) (by kernel_rfl) ?_ ((Hooks.add cca6 (Hooks.add ccb6 (Hooks.nil _ _)))) ?_
                  rotate_left
                  · intro W'; go_simp; first | done | with_reducible rfl
                  try simp only [Act.put]
                  try simp only [List.setIfInBounds_toArray]
                  try simp only [List.set_cons_succ]
                  try simp only [List.set_cons_zero]
                  refine loads_tail 12 (by kernel_rfl) (by kernel_rfl) (by kernel_rfl) (by kernel_rfl) ?_
                  simp only [List.drop_succ_cons, List.drop_zero]
                  clear cca ccb ccz cca6 ccb6 hb10 HXO
                  go_wp2_with fail
                  go_roundg (gk - 1)
                  case measure => omega
                  case rel => exact ⟨k + 1, by omega, rfl, by go_num, HL10.out⟩
                · have hki : ¬ (k : Int) < (N : Int) := by omega
                  go_wp2_with fail
                  go_ret
                  exact ⟨rfl, HB0.out.trans (HW9.out.mono HB0.out.size)⟩
        · rw [decide_eq_true (show (l1.length : Int) ≠ (l2.length : Int) by omega)] at hq1
          clear hsm hfa hfb hab
          go_enter Tryd.func9, Tryd.ntmps9
          go_wp2_with (first | (go_at_call 11; rw [← HWE.out]; refine HSA.out.mono ?_; rintro e w1 ⟨rfl, hb1⟩; have HB1 := hideIt hb1; clear hb1 HSA) | (go_at_call 12; refine (HSM.out _ HB1.out).mono ?_; rintro e w2 ⟨rfl, hb2⟩; have HB2 := hideIt (HB1.out.trans (hb2.mono HB1.out.size)); clear hb2 HSM) | (go_at_call 13; refine (HFA.out _ HB2.out).mono ?_; rintro e w3 ⟨rfl, rfl⟩; clear HFA) | (go_at_call 13; refine (HFB.out _ HB2.out).mono ?_; rintro e w3 ⟨rfl, rfl⟩; clear HFB) | ((with_reducible refine at_load ?_); refine wpList_ldC (by kernel_rfl) (.tmp 3) rfl (p := w.heap.size) (c := c0) rfl (HBC.out.keep HB1.out).box ?_))
          go_ret
          exact ⟨rfl, HB0.out.trans (HB2.out.mono HB0.out.size)⟩
      · rw [Bool.eq_false_iff.2 hfb] at HFB
        clear hsm hfa hfb
        go_enter Tryd.func9, Tryd.ntmps9
        go_wp2_with (first | (go_at_call 11; rw [← HWE.out]; refine HSA.out.mono ?_; rintro e w1 ⟨rfl, hb1⟩; have HB1 := hideIt hb1; clear hb1 HSA) | (go_at_call 12; refine (HSM.out _ HB1.out).mono ?_; rintro e w2 ⟨rfl, hb2⟩; have HB2 := hideIt (HB1.out.trans (hb2.mono HB1.out.size)); clear hb2 HSM) | (go_at_call 13; refine (HFA.out _ HB2.out).mono ?_; rintro e w3 ⟨rfl, rfl⟩; clear HFA) | (go_at_call 13; refine (HFB.out _ HB2.out).mono ?_; rintro e w3 ⟨rfl, rfl⟩; clear HFB) | ((with_reducible refine at_load ?_); refine wpList_ldC (by kernel_rfl) (.tmp 3) rfl (p := w.heap.size) (c := c0) rfl (HBC.out.keep HB1.out).box ?_))
        go_ret
        exact ⟨rfl, HB0.out.trans (HB2.out.mono HB0.out.size)⟩
    · rw [Bool.eq_false_iff.2 hfa] at HFA
      clear hsm hfa
      go_enter Tryd.func9, Tryd.ntmps9
      go_wp2_with (first | (go_at_call 11; rw [← HWE.out]; refine HSA.out.mono ?_; rintro e w1 ⟨rfl, hb1⟩; have HB1 := hideIt hb1; clear hb1 HSA) | (go_at_call 12; refine (HSM.out _ HB1.out).mono ?_; rintro e w2 ⟨rfl, hb2⟩; have HB2 := hideIt (HB1.out.trans (hb2.mono HB1.out.size)); clear hb2 HSM) | (go_at_call 13; refine (HFA.out _ HB2.out).mono ?_; rintro e w3 ⟨rfl, rfl⟩; clear HFA) | (go_at_call 13; refine (HFB.out _ HB2.out).mono ?_; rintro e w3 ⟨rfl, rfl⟩; clear HFB) | ((with_reducible refine at_load ?_); refine wpList_ldC (by kernel_rfl) (.tmp 3) rfl (p := w.heap.size) (c := c0) rfl (HBC.out.keep HB1.out).box ?_))
      go_ret
      exact ⟨rfl, HB0.out.trans (HB2.out.mono HB0.out.size)⟩
  · rw [Bool.eq_false_iff.2 hsm] at HSM
    clear hsm
    go_enter Tryd.func9, Tryd.ntmps9
    go_wp2_with (first | (go_at_call 11; rw [← HWE.out]; refine HSA.out.mono ?_; rintro e w1 ⟨rfl, hb1⟩; have HB1 := hideIt hb1; clear hb1 HSA) | (go_at_call 12; refine (HSM.out _ HB1.out).mono ?_; rintro e w2 ⟨rfl, hb2⟩; have HB2 := hideIt (HB1.out.trans (hb2.mono HB1.out.size)); clear hb2 HSM) | (go_at_call 13; refine (HFA.out _ HB2.out).mono ?_; rintro e w3 ⟨rfl, rfl⟩; clear HFA) | (go_at_call 13; refine (HFB.out _ HB2.out).mono ?_; rintro e w3 ⟨rfl, rfl⟩; clear HFB) | ((with_reducible refine at_load ?_); refine wpList_ldC (by kernel_rfl) (.tmp 3) rfl (p := w.heap.size) (c := c0) rfl (HBC.out.keep HB1.out).box ?_))
    go_ret
    exact ⟨rfl, HB0.out.trans (HB2.out.mono HB0.out.size)⟩

end Go.Proofs.YtpjgmekpnlpjaaaDoor.erasureEncodeIsLinear
