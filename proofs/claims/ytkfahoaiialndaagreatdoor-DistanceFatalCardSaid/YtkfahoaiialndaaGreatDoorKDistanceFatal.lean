/-
  The walk of the law: what Fatal returns: present, increasing, one more than Left, and without it the rest is not decodable.
-/
import Derived.Test.YtkfahoaiialndaaGreatDoorDstL
import Derived.Test.YtkfahoaiialndaaGreatDoorDstX
namespace Go.Proofs.YtkfahoaiialndaaGreatDoor.distanceFatal
open Go.RowKit
set_option linter.unusedVariables false

theorem lsN_nI {N : Nat} : ∀ {l : List Nat}, (∀ i ∈ l, i < N) → lsN N (nI l) = l
  | [], _ => rfl
  | a :: l, h => by
    have ih := lsN_nI (N := N) (l := l) fun i hi => h i (List.mem_cons_of_mem _ hi)
    have ha := h a List.mem_cons_self
    unfold lsN at ih ⊢
    rw [show nI (a :: l) = (a : Int) :: nI l from rfl, List.filter_cons, if_pos (decide_eq_true (by omega)), List.map_cons, ih]
    simp
theorem pw_at {l : List Nat} (h : l.Pairwise (· < ·)) {k : Nat} (hk : k + 1 < l.length) : l[k] < l[k + 1] := List.pairwise_iff_getElem.1 h k (k + 1) (by omega) hk (Nat.lt_succ_self k)

set_option maxHeartbeats 1600000 in
set_option maxRecDepth 100000 in
theorem walk (a0 : Cd) (A0 : Option Addr) (c0 : Nat) (l1 : List Bool) (A1 : Option Addr) (c1 : Nat) (w : World) (x0 : CIn w a0 A0) (n0 : a0.name.length ≤ 9223372036854775807) (x1 : Sl w w.heap.size A1 1 l1.length (l1.map bl)) (m1 : l1.length ≤ 9223372036854775807) (T1 : Tabs w) (pg : Pg) :
    Calls Tryz.prog 5 #[a0.v A0 c0, .slice A1 l1.length c1] w fun e w' => e = .returned (.bool true) ∧ Below w.heap.size w w' := by
  obtain ⟨W0, hW0⟩ : ∃ W, W = w.alloc (.cells (a0.cs A0 c0).toArray 24) := ⟨_, rfl⟩
  have hb0 : Below w.heap.size w W0 := by rw [hW0]; exact below_new w _
  have HB0 := hideIt hb0
  have HBC := hideIt (show BC W0 w.heap.size a0 A0 c0 by rw [hW0]; exact BC.new c0 x0)
  have HT := hideIt (T1.keep hb0)
  have HX := hideIt ((x1.below hb0).wide hb0.size)
  have HWE := hideIt hW0
  have HPG := hideIt pg
  have HSA := hideIt (fun (W : World) (h : Below W0.heap.size W0 W) => sanity_any HPG.out W (HT.out.keep h))
  have HSM := hideIt (small9_any a0 A0 c0 W0 HBC.out.cin)
  have hnot := not_b
  have HNM := hideIt n0
  clear hW0 hb0 x0 x1 T1 m1 pg n0
  by_cases hsm : sm9B a0 = true
  · rw [hsm] at HSM
    have HS9 := hideIt (sm9B_sm hsm)
    by_cases h12 : (l1.length : Int) > 12
    · have hg1 : binOp .gtr 3 (.int .i64 (l1.length : Int)) (.int .i64 12) = pure (.bool true) := by rw [binOp_gtr, decide_eq_true h12]
      clear hsm h12
      go_enter Tryz.func5, Tryz.ntmps5
      go_wp2_with (first | (go_at_call 9; rw [← HWE.out]; refine HSM.out.mono ?_; rintro e w1 ⟨rfl, hb⟩; have G1 := hideIt hb; clear hb HSM) | ((with_reducible refine at_load ?_); refine wpList_ldC (by kernel_rfl) (.tmp 2) rfl (p := w.heap.size) (c := c0) rfl (by first | exact (HBC.out.keep G3.out).box | exact (HBC.out.keep G1.out).box | (rw [← HWE.out]; exact HBC.out.box)) ?_) | (go_at_call 10; refine (HSA.out _ G1.out).mono ?_; rintro e w9 ⟨rfl, hb⟩; have G9 := hideIt (G1.out.trans (hb.mono G1.out.size)); clear hb HSA))
      go_ret
      exact ⟨rfl, HB0.out.trans (G9.out.mono HB0.out.size)⟩
    · have hg1 : binOp .gtr 3 (.int .i64 (l1.length : Int)) (.int .i64 12) = pure (.bool false) := by rw [binOp_gtr, decide_eq_false h12]
      have hl1 : l1.length ≤ 12 := by omega
      have HLE := hideIt (fun (W : World) (h : Below W0.heap.size W0 W) => HPG.out.left a0 A0 c0 W (HT.out.keep h) (HBC.out.keep h).cin HNM.out HS9.out l1 A1 c1 (by omega) ((HX.out.below h).wide h.size))
      have HFA := hideIt (fun (W : World) (h : Below W0.heap.size W0 W) => HPG.out.fatal a0 A0 c0 W (HT.out.keep h) (HBC.out.keep h).cin HNM.out HS9.out l1 A1 c1 (by omega) ((HX.out.below h).wide h.size))
      by_cases hok : okX a0 l1.length = true ∧ dcX a0 l1 = true
      · have hz : leftZ (dcX a0) (okX a0 l1.length) l1 = ((leftN (dcX a0) l1 : Nat) : Int) := if_pos hok
        rw [hz] at HLE
        obtain ⟨m, n0, hvc, hN, hN9⟩ := okX_vc HS9.out hok.1
        have hpos : 0 < l1.length := by have := hvc.pos; omega
        have h4 : leftN (dcX a0) l1 ≤ 4 := left_le.1
        have g0 : binOp .lss 3 (.int .i64 ((leftN (dcX a0) l1 : Nat) : Int)) (.int .i64 0) = pure (.bool false) := by rw [binOp_lss, decide_eq_false (by omega)]
        have q4 := i_eql 3 .i64 ((leftN (dcX a0) l1 : Nat) : Int) 4
        by_cases hmx : leftN (dcX a0) l1 = 4
        · have hfl : fatZ (dcX a0) (okX a0 l1.length) l1 = [] := by unfold fatZ; exact if_neg fun h => h.2.2 hmx
          rw [hfl] at HFA
          rw [decide_eq_true (by omega)] at q4
          clear hsm h12 hok hz hvc hN hl1 hN9 hpos h4 hmx hfl
          generalize leftN (dcX a0) l1 = f at *
          go_enter Tryz.func5, Tryz.ntmps5
          go_wp2_with (first | (go_at_call 9; rw [← HWE.out]; refine HSM.out.mono ?_; rintro e w1 ⟨rfl, hb⟩; have G1 := hideIt hb; clear hb HSM) | (go_at_call 13; refine (HLE.out _ G1.out).mono ?_; rintro e w3 ⟨rfl, hb⟩; have G3 := hideIt (G1.out.trans (hb.mono G1.out.size)); clear hb HLE) | (go_at_call 16; refine (HFA.out _ G3.out).mono ?_; rintro e w5 ⟨F5, cf5, rfl, hs5, hb⟩; have HS5 := hideIt hs5; have G5 := hideIt (G3.out.trans (hb.mono G3.out.size)); clear hs5 hb HFA) | ((with_reducible refine at_load ?_); refine wpList_ldC (by kernel_rfl) (.tmp 2) rfl (p := w.heap.size) (c := c0) rfl (by first | exact (HBC.out.keep G3.out).box | exact (HBC.out.keep G1.out).box | (rw [← HWE.out]; exact HBC.out.box)) ?_) | (go_at_call 10; refine (HSA.out _ G5.out).mono ?_; rintro e w9 ⟨rfl, hb⟩; have G9 := hideIt (G5.out.trans (hb.mono G5.out.size)); clear hb HSA))
          go_ret
          exact ⟨rfl, HB0.out.trans (G9.out.mono HB0.out.size)⟩
        · obtain ⟨l, hl, hll, hpw, hin, hdc⟩ := fatal_is (dcd_x hvc) hN hok.2 hmx
          have hfl : fatZ (dcX a0) (okX a0 l1.length) l1 = l := by unfold fatZ; rw [if_pos ⟨hok.1, hok.2, hmx⟩, hl]; rfl
          rw [hfl] at HFA
          rw [decide_eq_false (by omega)] at q4
          have hinc := inc_c 3 (leftN (dcX a0) l1) (by omega)
          rw [← hll] at hinc
          have hne : binOp .neq 3 (.int .i64 (l.length : Int)) (.int .i64 (l.length : Int)) = pure (.bool false) := by rw [i_neq, decide_eq_false (fun h => h rfl)]
          have hl5 : l.length ≤ 5 := by omega
          have HPW := hideIt hpw
          have HIN := hideIt hin
          have HMI := hideIt (fun (W : World) (h : Below W0.heap.size W0 W) (F : Option Addr) (cf : Nat) (hF : Sl W W.heap.size F 1 l.length ((nI l).map iv)) =>
            show Calls Tryz.prog 22 #[.slice A1 l1.length c1, .slice F l.length cf] W (fun e w' => ∃ A c, e = .returned (.slice A l1.length c) ∧ w'.ownsRow W.heap.size 4 1 (.slice A l1.length c) l1.length ((wo l1 l).map bl) ∧ Below W.heap.size W w') by
              have := minus_any l1 (nI l) (by omega) hpos (by rw [nI_len]; omega) A1 c1 F cf W ((HX.out.below h).wide h.size) (by rw [nI_len]; exact hF)
              rw [nI_len, lsN_nI (fun i hi => (hin i hi).1)] at this
              exact this)
          have HDE := hideIt (fun (W : World) (h : Below W0.heap.size W0 W) (G : Option Addr) (cg : Nat) (hG : Sl W W.heap.size G 1 l1.length ((wo l1 l).map bl)) =>
            show Calls Tryz.prog 21 #[a0.v A0 c0, .slice G l1.length cg] W (fun e w' => e = .returned (.bool false) ∧ Below W.heap.size W w') by
              have := decodable_any a0 A0 c0 W (HT.out.keep h) (HBC.out.keep h).cin (wo l1 l) G cg (by rw [wo_len]; omega) (by rw [wo_len]; exact hG)
              rw [wo_len] at this
              rw [← hdc]
              exact this)
          clear hsm h12 hok hz hvc hN hl1 hN9 hpos h4 hmx hfl hl hpw hin hdc hll
          generalize leftN (dcX a0) l1 = f at *
          go_enter Tryz.func5, Tryz.ntmps5
          go_wp2_with (first | (go_at_call 9; rw [← HWE.out]; refine HSM.out.mono ?_; rintro e w1 ⟨rfl, hb⟩; have G1 := hideIt hb; clear hb HSM) | (go_at_call 13; refine (HLE.out _ G1.out).mono ?_; rintro e w3 ⟨rfl, hb⟩; have G3 := hideIt (G1.out.trans (hb.mono G1.out.size)); clear hb HLE) | (go_at_call 16; refine (HFA.out _ G3.out).mono ?_; rintro e w5 ⟨F5, cf5, rfl, hs5, hb⟩; have HS5 := hideIt hs5; have G5 := hideIt (G3.out.trans (hb.mono G3.out.size)); clear hs5 hb HFA) | ((with_reducible refine at_load ?_); refine wpList_ldC (by kernel_rfl) (.tmp 2) rfl (p := w.heap.size) (c := c0) rfl (by first | exact (HBC.out.keep G3.out).box | exact (HBC.out.keep G1.out).box | (rw [← HWE.out]; exact HBC.out.box)) ?_))
          go_loopg [8] l.length (fun gk s8 wr => ∃ k : Nat, k + gk = l.length ∧ s8 = .int .i64 (k : Int) ∧ Aside (Below w5.heap.size w5 wr))
          case atStart => exact ⟨0, by omega, rfl, Below.refl _ _⟩
          case round =>
            obtain ⟨k, hk, rfl, HL⟩ := hrel
            obtain ⟨w6, rfl⟩ : ∃ x, x = wr := ⟨wr, rfl⟩
            have G6 := hideIt (G5.out.trans (HL.out.mono G5.out.size))
            by_cases hlt : k < l.length
            · have hki : (k : Int) < (l.length : Int) := by omega
              have hin1 := inc_c 3 k (by omega)
              have hsl : Sl w6 w6.heap.size F5 1 (nI l).length ((nI l).map iv) := by rw [nI_len]; exact (HS5.out.below HL.out).wide HL.out.size
              obtain ⟨b, o, rfl, hb, hc⟩ := hsl.num (k := k) (by rw [nI_len]; exact hlt)
              have hgk : (nI l)[k]'(by rw [nI_len]; exact hlt) = ((l[k] : Nat) : Int) := by simp
              rw [hgk] at hc
              obtain ⟨hx1, hx2⟩ := HIN.out l[k] (List.getElem_mem hlt)
              obtain ⟨b2, o2, v2, hA1, hb2, hv2, hc2⟩ := ((HX.out.below G6.out).wide G6.out.size).at_ hx1
              rw [List.getElem?_map, List.getElem?_eq_getElem hx1] at hv2
              injection hv2 with hv2
              subst hv2 hA1
              change w6.cell? ⟨b2, o2 + l[k], none⟩ = some (.bool (l1[l[k]]'hx1)) at hc2
              rw [show (l1[l[k]]'hx1) = true by rw [← hx2, gD hx1]] at hc2
              have g1 : binOp .lss 3 (.int .i64 ((l[k] : Nat) : Int)) (.int .i64 0) = pure (.bool false) := by rw [binOp_lss, decide_eq_false (by omega)]
              have g2 : binOp .geq 3 (.int .i64 ((l[k] : Nat) : Int)) (.int .i64 (l1.length : Int)) = pure (.bool false) := by rw [binOp_geq, decide_eq_false (by omega)]
              have hx3 : ((l[k] : Nat) : Int) < (l1.length : Int) := by omega
              cases k with
              | zero =>
                have g3 : binOp .gtr 3 (.int .i64 ((0 : Nat) : Int)) (.int .i64 0) = pure (.bool false) := by rw [binOp_gtr]; rfl
                have g3' : binOp .gtr 3 (.int .i64 0) (.int .i64 0) = pure (.bool false) := by rw [binOp_gtr]; rfl
                have hki0 : (0 : Int) < (l.length : Int) := by omega
                have hc0 : w6.cell? ⟨b, o, none⟩ = some (iv ((l[0] : Nat) : Int)) := hc
                clear hsl hb hb2 hgk
                generalize l[0] = q at *
                go_wp2_with fail
                go_quiet (fail)
                go_wp2_with fail
                go_roundg (gk - 1)
                case measure => omega
                case rel => exact ⟨1, by omega, by go_num, by first | exact HL.out | exact below_drewN HL.out _⟩
              | succ j =>
                have g3 : binOp .gtr 3 (.int .i64 ((j + 1 : Nat) : Int)) (.int .i64 0) = pure (.bool true) := by rw [binOp_gtr, decide_eq_true (by omega)]
                obtain ⟨b', o', e', hb', hc'⟩ := hsl.num (k := j) (by rw [nI_len]; omega)
                injection e' with e'
                injection e' with e1 e2
                subst e1 e2
                have hgj : (nI l)[j]'(by rw [nI_len]; omega) = ((l[j]'(by omega) : Nat) : Int) := by simp
                rw [hgj] at hc'
                have hlq := pw_at HPW.out hlt
                have g4 : binOp .leq 3 (.int .i64 ((l[j + 1] : Nat) : Int)) (.int .i64 ((l[j]'(by omega) : Nat) : Int)) = pure (.bool false) := by rw [binOp_leq, decide_eq_false (by omega)]
                have hsb := sub_c1 3 j (by omega)
                have hjl : (j : Int) < (l.length : Int) := by omega
                clear hsl hb hb2 hb' hgk hgj hlq
                generalize l[j + 1] = q at *
                generalize l[j]'(by omega) = q' at *
                go_wp2_with fail
                go_quiet (fail)
                go_wp2_with fail
                go_roundg (gk - 1)
                case measure => omega
                case rel => exact ⟨j + 1 + 1, by omega, by go_num, by first | exact HL.out | exact below_drewN HL.out _⟩
            · have hki : ¬ (k : Int) < (l.length : Int) := by omega
              have HS6 := hideIt ((HS5.out.below HL.out).wide HL.out.size)
              go_wp2_with fail
              have HBHG6 := hideIt (HBC.out.keep G6.out).box
              refine loads_begin_n 10 [(9, fun W => Blk W w.heap.size 24 (a0.cs A0 c0))] rfl (by kernel_rfl) ?_
              have GD := hideIt G6.out.drew
              try simp only [Act.put]
              try simp only [List.setIfInBounds_toArray]
              try simp only [List.set_cons_succ]
              try simp only [List.set_cons_zero]
              refine wpAnyL_one (o := ⟨some 86, _, _, _, _, _⟩) 0 (by kernel_rfl) rfl (fun K hK => ?_)
              go_wp2_with (first | (go_at_call 10; refine (HSA.out _ GD.out).mono ?_; rintro e w9 ⟨rfl, hb⟩; have HS9b := hideIt (((HS6.out.below (Below.refl w6.heap.size w6).drew).below hb).wide hb.size); have G9 := hideIt (GD.out.trans (hb.mono GD.out.size)); clear hb HSA))
              have HBHG9 := hideIt (HBC.out.keep G9.out).box
              refine hK _ _ (Hooks.add HBHG9.out (Hooks.nil _ _)) ?_
              clear hK K HBHG6
              try simp only [Act.put]
              try simp only [List.setIfInBounds_toArray]
              try simp only [List.set_cons_succ]
              try simp only [List.set_cons_zero]
              refine wpAnyL_move (oi := ⟨some 87, _, _, _, _, _⟩) 1 ?_ rfl (by kernel_rfl) (by kernel_rfl) (by kernel_rfl) (by kernel_rfl) (fun _ _ _ h => h) (by kernel_rfl) ?_ ((Hooks.add HBHG9.out (Hooks.nil _ _))) ?_
              rotate_left
              · intro W'; go_simp; first | done | with_reducible rfl
              try simp only [Act.put]
              try simp only [List.setIfInBounds_toArray]
              try simp only [List.set_cons_succ]
              try simp only [List.set_cons_zero]
              refine wpAnyL_take (oi := ⟨some 88, _, _, _, _, _⟩) 2 9 (a0.v A0 c0) _ rfl (by kernel_rfl) (by kernel_rfl) (by kernel_rfl) (by kernel_rfl) (by kernel_rfl) (by kernel_rfl) (.head _) (fun _ _ _ h => h) (by kernel_rfl) (fun W' hW' => exec_load_blk (cs := a0.cs A0 c0) rfl rfl hW' _ Tryz.underlying24 rfl isz5) (Hooks.add HBHG9.out (Hooks.nil _ _)) ?_
              try simp only [Act.put]
              try simp only [List.setIfInBounds_toArray]
              try simp only [List.set_cons_succ]
              try simp only [List.set_cons_zero]
              refine wpAnyL_move (oi := ⟨some 89, _, _, _, _, _⟩) 3 ?_ rfl (by kernel_rfl) (by kernel_rfl) (by kernel_rfl) (by kernel_rfl) (fun _ _ _ h => h) (by kernel_rfl) ?_ ((Hooks.add HBHG9.out (Hooks.nil _ _))) ?_
              rotate_left
              · intro W'; go_simp; first | done | with_reducible rfl
              try simp only [Act.put]
              try simp only [List.setIfInBounds_toArray]
              try simp only [List.set_cons_succ]
              try simp only [List.set_cons_zero]
              refine wpAnyL_move (oi := ⟨some 90, _, _, _, _, _⟩) 4 ?_ rfl (by kernel_rfl) (by kernel_rfl) (by kernel_rfl) (by kernel_rfl) (fun _ _ _ h => h) (by kernel_rfl) ?_ ((Hooks.add HBHG9.out (Hooks.nil _ _))) ?_
              rotate_left
              · intro W'; go_simp; first | done | with_reducible rfl
              try simp only [Act.put]
              try simp only [List.setIfInBounds_toArray]
              try simp only [List.set_cons_succ]
              try simp only [List.set_cons_zero]
              refine wpAnyL_one (o := ⟨some 91, _, _, _, _, _⟩) 5 (by kernel_rfl) rfl (fun K hK => ?_)
              go_wp2_with (first | (go_at_call 22; refine (HMI.out _ G9.out _ _ HS9b.out).mono ?_; rintro e w4 ⟨G4, cg4, rfl, ho4, hb⟩; have HS4 := hideIt (Sl.of_own ho4); have K4 := hideIt (G9.out.trans (hb.mono G9.out.size)); clear ho4 hb HMI))
              have HBHK4 := hideIt (HBC.out.keep K4.out).box
              refine hK _ _ (Hooks.add HBHK4.out (Hooks.nil _ _)) ?_
              clear hK K HBHG9
              try simp only [Act.put]
              try simp only [List.setIfInBounds_toArray]
              try simp only [List.set_cons_succ]
              try simp only [List.set_cons_zero]
              refine wpAnyL_one (o := ⟨some 92, _, _, _, _, _⟩) 6 (by kernel_rfl) rfl (fun K hK => ?_)
              go_wp2_with (first | (go_at_call 21; refine (HDE.out _ K4.out _ _ HS4.out).mono ?_; rintro e w7 ⟨rfl, hb⟩; have K5 := hideIt (K4.out.trans (hb.mono K4.out.size)); clear hb HDE))
              have HBHK5 := hideIt (HBC.out.keep K5.out).box
              refine hK _ _ (Hooks.add HBHK5.out (Hooks.nil _ _)) ?_
              clear hK K HBHK4
              try simp only [Act.put]
              try simp only [List.setIfInBounds_toArray]
              try simp only [List.set_cons_succ]
              try simp only [List.set_cons_zero]
              refine wpAnyL_move (oi := ⟨some 93, _, _, _, _, _⟩) 7 ?_ rfl (by kernel_rfl) (by kernel_rfl) (by kernel_rfl) (by kernel_rfl) (fun _ _ _ h => h) (by kernel_rfl) ?_ ((Hooks.add HBHK5.out (Hooks.nil _ _))) ?_
              rotate_left
              · intro W'; go_simp; first | done | with_reducible rfl
              try simp only [Act.put]
              try simp only [List.setIfInBounds_toArray]
              try simp only [List.set_cons_succ]
              try simp only [List.set_cons_zero]
              refine wpAnyL_move (oi := ⟨some 94, _, _, _, _, _⟩) 8 ?_ rfl (by kernel_rfl) (by kernel_rfl) (by kernel_rfl) (by kernel_rfl) (fun _ _ _ h => h) (by kernel_rfl) ?_ ((Hooks.add HBHK5.out (Hooks.nil _ _))) ?_
              rotate_left
              · intro W'; go_simp; first | done | with_reducible rfl
              try simp only [Act.put]
              try simp only [List.setIfInBounds_toArray]
              try simp only [List.set_cons_succ]
              try simp only [List.set_cons_zero]
              refine loads_tail 9 (by kernel_rfl) (by kernel_rfl) (by kernel_rfl) (by kernel_rfl) ?_
              simp only [List.drop_succ_cons, List.drop_zero]
              go_wp2_with fail
              go_ret
              exact ⟨rfl, HB0.out.trans (K5.out.mono HB0.out.size)⟩
      · have hz : leftZ (dcX a0) (okX a0 l1.length) l1 = -1 := if_neg hok
        have hfl : fatZ (dcX a0) (okX a0 l1.length) l1 = [] := by unfold fatZ; exact if_neg fun h => hok ⟨h.1, h.2.1⟩
        rw [hz] at HLE
        rw [hfl] at HFA
        clear hsm h12 hok hz hl1 hfl
        go_enter Tryz.func5, Tryz.ntmps5
        go_wp2_with (first | (go_at_call 9; rw [← HWE.out]; refine HSM.out.mono ?_; rintro e w1 ⟨rfl, hb⟩; have G1 := hideIt hb; clear hb HSM) | (go_at_call 13; refine (HLE.out _ G1.out).mono ?_; rintro e w3 ⟨rfl, hb⟩; have G3 := hideIt (G1.out.trans (hb.mono G1.out.size)); clear hb HLE) | (go_at_call 16; refine (HFA.out _ G3.out).mono ?_; rintro e w5 ⟨F5, cf5, rfl, hs5, hb⟩; have HS5 := hideIt hs5; have G5 := hideIt (G3.out.trans (hb.mono G3.out.size)); clear hs5 hb HFA) | ((with_reducible refine at_load ?_); refine wpList_ldC (by kernel_rfl) (.tmp 2) rfl (p := w.heap.size) (c := c0) rfl (by first | exact (HBC.out.keep G3.out).box | exact (HBC.out.keep G1.out).box | (rw [← HWE.out]; exact HBC.out.box)) ?_) | (go_at_call 10; refine (HSA.out _ G5.out).mono ?_; rintro e w9 ⟨rfl, hb⟩; have G9 := hideIt (G5.out.trans (hb.mono G5.out.size)); clear hb HSA))
        go_ret
        exact ⟨rfl, HB0.out.trans (G9.out.mono HB0.out.size)⟩
  · have hf : sm9B a0 = false := Bool.eq_false_iff.2 hsm
    rw [hf] at HSM
    clear hsm hf
    go_enter Tryz.func5, Tryz.ntmps5
    go_wp2_with (first | (go_at_call 9; rw [← HWE.out]; refine HSM.out.mono ?_; rintro e w1 ⟨rfl, hb⟩; have G1 := hideIt hb; clear hb HSM) | ((with_reducible refine at_load ?_); refine wpList_ldC (by kernel_rfl) (.tmp 2) rfl (p := w.heap.size) (c := c0) rfl (by first | exact (HBC.out.keep G3.out).box | exact (HBC.out.keep G1.out).box | (rw [← HWE.out]; exact HBC.out.box)) ?_) | (go_at_call 10; refine (HSA.out _ G1.out).mono ?_; rintro e w9 ⟨rfl, hb⟩; have G9 := hideIt (G1.out.trans (hb.mono G1.out.size)); clear hb HSA))
    go_ret
    exact ⟨rfl, HB0.out.trans (G9.out.mono HB0.out.size)⟩

end Go.Proofs.YtkfahoaiialndaaGreatDoor.distanceFatal
