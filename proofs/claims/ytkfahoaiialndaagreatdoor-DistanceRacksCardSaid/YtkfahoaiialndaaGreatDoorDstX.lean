/-
  The reference's Racks, walked.
-/
import Derived.Test.YtkfahoaiialndaaGreatDoorD9a
import Derived.Test.YtkfahoaiialndaaGreatDoorD9b
import Derived.Test.YtkfahoaiialndaaGreatDoorD9c
import Derived.Test.YtkfahoaiialndaaGreatDoorD9d
import Derived.Test.YtkfahoaiialndaaGreatDoorD9f
import Derived.Test.YtkfahoaiialndaaGreatDoorD9g
import Derived.Test.YtkfahoaiialndaaGreatDoorDstA
import Derived.Test.YtkfahoaiialndaaGreatDoorDstB
import Derived.Test.YtkfahoaiialndaaGreatDoorDstR
import Derived.Test.YtkfahoaiialndaaGreatDoorDstS
import Derived.Test.YtkfahoaiialndaaGreatDoorDstU
import Derived.Test.YtkfahoaiialndaaGreatDoorDstV
namespace Go.Proofs.YtkfahoaiialndaaGreatDoor
open Go.RowKit
set_option linter.unusedVariables false
set_option linter.unusedSimpArgs false

theorem nmK_len (racks : List Int) : ∀ k, (nmK racks k).length ≤ k
  | 0 => Nat.le_refl _
  | k + 1 => by
    have := nmK_len racks k
    unfold nmK
    split
    · omega
    · rw [List.length_append]; simp; omega
set_option maxHeartbeats 4000000 in
set_option maxRecDepth 100000 in
theorem rracks_any (x : Cd) (A : Option Addr) (c : Nat) (w : World) (hx : CIn w x A) (hnm : x.name.length ≤ 9223372036854775807) (hs9 : Sm9 x) (racks : List Int) (hl : racks.length ≤ 1000) (R : Option Addr) (cr : Nat) (hR : Sl w w.heap.size R 1 racks.length (racks.map iv)) :
    Calls Tryz.prog 19 #[x.v A c, .slice R racks.length cr] w fun e w' => e = .returned (.int .i64 (racksZ (dcX x) (okX x racks.length) racks)) ∧ Below w.heap.size w w' := by
  obtain ⟨W, hW⟩ : ∃ W, W = w.alloc (.cells (x.cs A c).toArray 24) := ⟨_, rfl⟩
  have hbw : Below w.heap.size w W := by rw [hW]; exact below_new w _
  have HB := hideIt hbw
  have HBC := hideIt (show BC W w.heap.size x A c by rw [hW]; exact BC.new c hx)
  have HBX := hideIt HBC.out.box
  have HRK := hideIt ((hR.below hbw).wide hbw.size)
  have HV := hideIt (rvalid9_any x A c W HBC.out.cin hnm hs9 racks.length)
  have HWE := hideIt hW
  have hnot := not_b
  obtain ⟨Z, hZ⟩ : ∃ z, z = racksZ (dcX x) (okX x racks.length) racks := ⟨_, rfl⟩
  rw [← hZ]
  have HZ := hideIt (hZ.trans rfl : Z = if okX x racks.length = true then (racksN (dcX x) racks : Int) else -1)
  clear hbw hx hW hR hZ
  cases hok : okX x racks.length with
  | false =>
    rw [hok] at HV HZ
    have HE := hideIt (HZ.out.trans (if_neg (by decide)))
    clear hok
    go_enter Tryz.func19, Tryz.ntmps19
    go_wp2_with (first | ((with_reducible refine at_load ?_); refine wpList_ldC (by kernel_rfl) (.tmp 2) rfl (p := w.heap.size) (c := c) rfl (by rw [← HWE.out]; exact HBX.out) ?_) | (go_at_call 27; rw [← HWE.out]; refine HV.out.mono ?_; rintro e w1 ⟨rfl, hb1⟩; have HB1 := hideIt hb1; clear hb1 HV))
    go_ret
    exact ⟨by rw [HE.out]; rfl, HB.out.trans (HB1.out.mono HB.out.size)⟩
  | true =>
    obtain ⟨m, n0, hvc, hN, hN9⟩ := okX_vc hs9 hok
    have hpos : 0 < racks.length := by have := hvc.pos; omega
    rw [hok] at HV HZ
    have HLO := hideIt (fun (W2 : World) (h : Below W.heap.size W W2) (M : Option Addr) (cm : Nat) (hM : Sl W2 W2.heap.size M 1 (nmL racks).length ((nmL racks).map iv)) (G : Option Addr) (cg : Nat) (hG : Sl W2 W2.heap.size G 1 racks.length ((List.replicate racks.length true).map bl)) (g : Nat) (hg : g < 4) =>
      show Calls Tryz.prog 35 #[x.v A c, .slice R racks.length cr, .slice M (nmL racks).length cm, .slice G racks.length cg, .int .i64 0, .int .i64 ((g + 1 : Nat) : Int)] W2 (fun e w' => e = .returned (.bool (lsR (dcX x) racks (nmL racks) (g + 1) (List.replicate racks.length true) 0)) ∧ Below W2.heap.size W2 w') from
        lose_any x A c hs9 hvc racks (nmL racks) hN9 hpos (Nat.le_trans (nmK_len racks _) hN9) R cr M cm (g + 1) (List.replicate racks.length true) 0 W2 G cg List.length_replicate (by omega) (Nat.zero_le _) (HBC.out.keep h).cin ((HRK.out.below h).wide h.size) hM hG)
    have HAL := hideIt (fun (W2 : World) => all_any racks.length (by omega) W2)
    obtain ⟨P, hP⟩ : ∃ p : Nat → Bool, p = fun g => !lsR (dcX x) racks (nmL racks) (g + 1) (List.replicate racks.length true) 0 := ⟨_, rfl⟩
    have HE := hideIt (show Z = (lfN P (min 4 (nmL racks).length - 0) 0 : Nat) by rw [HZ.out, if_pos rfl, hP]; rfl)
    have HPG := hideIt (fun g => show lsR (dcX x) racks (nmL racks) (g + 1) (List.replicate racks.length true) 0 = !P g by rw [hP]; simp)
    clear hok hvc hN hP HZ
    go_enter Tryz.func19, Tryz.ntmps19
    go_wp2_with (first | ((with_reducible refine at_load ?_); refine wpList_ldC (by kernel_rfl) (.tmp 2) rfl (p := w.heap.size) (c := c) rfl (by rw [← HWE.out]; exact HBX.out) ?_) | (go_at_call 27; rw [← HWE.out]; refine HV.out.mono ?_; rintro e w1 ⟨rfl, hb1⟩; have HB1 := hideIt hb1; clear hb1 HV))
    have HO1 := hideIt (World.ownsRow_nil w1 w1.heap.size 3 1)
    go_loopg [6, 7, 8] racks.length (fun gk s6 s7 s8 wr => ∃ k : Nat, k + gk = racks.length ∧ s7 = .int .i64 (k : Int) ∧ Aside (wr.ownsRow w1.heap.size 3 1 s6 (nmK racks k).length ((nmK racks k).map iv)) ∧ Aside (Below w1.heap.size w1 wr))
    case atStart => exact ⟨0, by omega, rfl, HO1.out, Below.refl _ _⟩
    case round =>
      obtain ⟨k, hk, rfl, HO, HL⟩ := hrel
      obtain ⟨w4, rfl⟩ : ∃ x, x = wr := ⟨wr, rfl⟩
      obtain ⟨M, cm, rfl, _, _⟩ := own_form HO.out
      have HL4 := hideIt (HB1.out.trans (HL.out.mono HB1.out.size))
      have HSM := hideIt (Sl.of_own HO.out)
      have hkl := nmK_len racks k
      by_cases hlt : k < racks.length
      · obtain ⟨b, o, rfl, hb, hc⟩ := (HRK.out.below HL4.out).num hlt
        have hinc := inc_c 3 k (by omega)
        have hki : (k : Int) < (racks.length : Int) := by omega
        have HNX := hideIt (show nmK racks (k + 1) = if racks.getD k 0 ∈ nmK racks k then nmK racks k else nmK racks k ++ [racks.getD k 0] from rfl)
        rw [gI hlt] at HNX
        have HHS := hideIt (has_any (nmK racks k) (by omega) racks[k] M cm w4 HSM.out)
        generalize racks[k] = rk at *
        clear hb hlt
        by_cases hq : rk ∈ nmK racks k
        · rw [decide_eq_true hq] at HHS
          rw [if_pos hq] at HNX
          clear hq
          go_wp2_with (first
            | (go_at_call 34; refine HHS.out.mono ?_; rintro e w5 ⟨rfl, rfl⟩))
          go_roundg (gk - 1)
          case measure => omega
          case rel => exact ⟨k + 1, by omega, by go_num, by rw [HNX.out]; exact HO.out, HL.out⟩
        · rw [decide_eq_false hq] at HHS
          rw [if_neg hq] at HNX
          clear hq
          go_wp2_with (first
            | (go_at_call 34; refine HHS.out.mono ?_; rintro e w5 ⟨rfl, rfl⟩)
            | ((with_reducible refine at_append ?_); refine wpList_apI (y := rk) (n := (nmK racks k).length) (us := nmK racks k) rfl (.tmp 30) (.tmp 35) rfl rfl HO.out rfl (by omega) HL.out.size ?_; intro v6 w6 HO6 HG6 HA6 HB6))
          go_roundg (gk - 1)
          case measure => omega
          case rel => exact ⟨k + 1, by omega, by go_num, by rw [HNX.out, List.length_append]; exact HO6.out, HL.out.trans HB6.out⟩
      · have hki : ¬ (k : Int) < (racks.length : Int) := by omega
        obtain rfl : k = racks.length := by omega
        obtain ⟨nn, hnn⟩ : ∃ q, q = nmL racks := ⟨_, rfl⟩
        have HSM2 := hideIt (show Sl w4 w4.heap.size M 1 nn.length (nn.map iv) by rw [hnn]; exact HSM.out)
        rw [← hnn] at HLO HE HPG
        replace hkl : nn.length ≤ racks.length := by rw [hnn]; exact hkl
        change Hid (w4.ownsRow w1.heap.size 3 1 (.slice M (nmL racks).length cm) (nmL racks).length ((nmL racks).map iv)) at HO
        clear HO HSM
        have hnn2 : (nmK racks racks.length).length = nn.length := by rw [hnn]
        rw [hnn2]
        clear hnn hnn2
        go_wp2_with fail
        go_loopg [5, 9] (min 4 nn.length) (fun gk s5 s9 wr => ∃ g : Nat, g + gk = min 4 nn.length ∧ s9 = .int .i64 (g : Int) ∧ Aside (Z = (lfN P (min 4 nn.length - g) g : Nat)) ∧ Aside (Below w4.heap.size w4 wr))
        case atStart => exact ⟨0, by omega, rfl, HE.out, Below.refl _ _⟩
        case round =>
          obtain ⟨g, hg, rfl, HZG, HL2⟩ := hrel
          obtain ⟨w5, rfl⟩ : ∃ x, x = wr := ⟨wr, rfl⟩
          have HL5 := hideIt (HL4.out.trans (HL2.out.mono HL4.out.size))
          have HBX5 := hideIt (HBC.out.keep HL5.out).box
          by_cases h4 : g < 4
          · have hg4 : (g : Int) < 4 := by omega
            by_cases hc : g < nn.length
            · have hgc : (g : Int) < (nn.length : Int) := by omega
              have HNX := hideIt (lf_next (P := P) (M := min 4 nn.length) (f := g) (by omega))
              have hinc := inc_c 3 g (by omega)
              have HLO5 := hideIt (fun (W2 : World) (h : Below w5.heap.size w5 W2) (G : Option Addr) (cg : Nat) (hG : Sl W2 W2.heap.size G 1 racks.length ((List.replicate racks.length true).map bl)) => HLO.out W2 (HL5.out.trans (h.mono HL5.out.size)) M cm ((((HSM2.out.below HL2.out).wide HL2.out.size).below h).wide h.size) G cg hG g h4)
              rw [HPG.out g] at HLO5
              have hq : P g = true ∨ P g = false := by cases P g <;> simp
              generalize P g = q at *
              clear h4 hc
              go_wp2_with fail
              refine loads_begin_n 10 [(9, fun W => Blk W w.heap.size 24 (x.cs A c))] rfl (by kernel_rfl) ?_
              try simp only [Act.put]
              try simp only [List.setIfInBounds_toArray]
              try simp only [List.set_cons_succ]
              try simp only [List.set_cons_zero]
              refine wpAnyL_take (oi := ⟨some 45, _, _, _, _, _⟩) 0 9 (x.v A c) _ rfl (by kernel_rfl) (by kernel_rfl) (by kernel_rfl) (by kernel_rfl) (by kernel_rfl) (by kernel_rfl) (.head _) (fun _ _ _ h => h) (by kernel_rfl) (fun W' hW' => exec_load_blk (cs := x.cs A c) rfl rfl hW' _ Tryz.underlying24 rfl isz5) (Hooks.add HBX5.out (Hooks.nil _ _)) ?_
              try simp only [Act.put]
              try simp only [List.setIfInBounds_toArray]
              try simp only [List.set_cons_succ]
              try simp only [List.set_cons_zero]
              refine wpAnyL_move (oi := ⟨some 46, _, _, _, _, _⟩) 1 ?_ rfl (by kernel_rfl) (by kernel_rfl) (by kernel_rfl) (by kernel_rfl) (fun _ _ _ h => h) (by kernel_rfl) ?_ ((Hooks.add HBX5.out (Hooks.nil _ _))) ?_
              rotate_left
              · intro W'; go_simp; first | done | with_reducible rfl
              try simp only [Act.put]
              try simp only [List.setIfInBounds_toArray]
              try simp only [List.set_cons_succ]
              try simp only [List.set_cons_zero]
              refine wpAnyL_move (oi := ⟨some 47, _, _, _, _, _⟩) 2 ?_ rfl (by kernel_rfl) (by kernel_rfl) (by kernel_rfl) (by kernel_rfl) (fun _ _ _ h => h) (by kernel_rfl) ?_ ((Hooks.add HBX5.out (Hooks.nil _ _))) ?_
              rotate_left
              · intro W'; go_simp; first | done | with_reducible rfl
              try simp only [Act.put]
              try simp only [List.setIfInBounds_toArray]
              try simp only [List.set_cons_succ]
              try simp only [List.set_cons_zero]
              refine wpAnyL_move (oi := ⟨some 48, _, _, _, _, _⟩) 3 ?_ rfl (by kernel_rfl) (by kernel_rfl) (by kernel_rfl) (by kernel_rfl) (fun _ _ _ h => h) (by kernel_rfl) ?_ ((Hooks.add HBX5.out (Hooks.nil _ _))) ?_
              rotate_left
              · intro W'; go_simp; first | done | with_reducible rfl
              try simp only [Act.put]
              try simp only [List.setIfInBounds_toArray]
              try simp only [List.set_cons_succ]
              try simp only [List.set_cons_zero]
              refine wpAnyL_move (oi := ⟨some 49, _, _, _, _, _⟩) 4 ?_ rfl (by kernel_rfl) (by kernel_rfl) (by kernel_rfl) (by kernel_rfl) (fun _ _ _ h => h) (by kernel_rfl) ?_ ((Hooks.add HBX5.out (Hooks.nil _ _))) ?_
              rotate_left
              · intro W'; go_simp; first | done | with_reducible rfl
              try simp only [Act.put]
              try simp only [List.setIfInBounds_toArray]
              try simp only [List.set_cons_succ]
              try simp only [List.set_cons_zero]
              refine wpAnyL_move (oi := ⟨some 51, _, _, _, _, _⟩) 6 ?_ rfl (by kernel_rfl) (by kernel_rfl) (by kernel_rfl) (by kernel_rfl) (fun _ _ _ h => h) (by kernel_rfl) ?_ ((Hooks.add HBX5.out (Hooks.nil _ _))) ?_
              rotate_left
              · intro W'; go_simp; first | done | with_reducible rfl
              try simp only [Act.put]
              try simp only [List.setIfInBounds_toArray]
              try simp only [List.set_cons_succ]
              try simp only [List.set_cons_zero]
              refine wpAnyL_move (oi := ⟨some 52, _, _, _, _, _⟩) 7 ?_ rfl (by kernel_rfl) (by kernel_rfl) (by kernel_rfl) (by kernel_rfl) (fun _ _ _ h => h) (by kernel_rfl) ?_ ((Hooks.add HBX5.out (Hooks.nil _ _))) ?_
              rotate_left
              · intro W'; go_simp; first | done | with_reducible rfl
              try simp only [Act.put]
              try simp only [List.setIfInBounds_toArray]
              try simp only [List.set_cons_succ]
              try simp only [List.set_cons_zero]
              refine wpAnyL_one (o := ⟨some 50, _, _, _, _, _⟩) 5 (by kernel_rfl) rfl (fun K hK => ?_)
              go_wp2_with (first
                | (go_at_call 25; refine (HAL.out _).mono ?_; rintro e w6 ⟨A6, c6, rfl, ho6, hb6⟩))
              have hb56 : Below w5.heap.size w5 w6 := (Below.refl w5.heap.size w5).drew.trans hb6
              have HB56 := hideIt hb56
              have HL6 := hideIt (HL5.out.trans (hb56.mono HL5.out.size))
              have HS6 := hideIt (Sl.of_own ho6)
              have HBX6 := hideIt (HBC.out.keep HL6.out).box
              refine hK _ _ (Hooks.add HBX6.out (Hooks.nil _ _)) ?_
              clear hK K ho6 hb6 hb56 HBX5
              try simp only [Act.put]
              try simp only [List.setIfInBounds_toArray]
              try simp only [List.set_cons_succ]
              try simp only [List.set_cons_zero]
              refine wpAnyL_one (o := ⟨some 53, _, _, _, _, _⟩) 8 (by kernel_rfl) rfl (fun K hK => ?_)
              go_wp2_with (first
                | (go_at_call 35; refine (HLO5.out _ HB56.out _ _ HS6.out).mono ?_; rintro e w7 ⟨rfl, hb7⟩))
              have HL7 := hideIt (HB56.out.trans (hb7.mono HB56.out.size))
              have HBX7 := hideIt (HBC.out.keep (HL5.out.trans (HL7.out.mono HL5.out.size))).box
              refine hK _ _ (Hooks.add HBX7.out (Hooks.nil _ _)) ?_
              clear hK K hb7 HBX6 HLO5
              try simp only [Act.put]
              try simp only [List.setIfInBounds_toArray]
              try simp only [List.set_cons_succ]
              try simp only [List.set_cons_zero]
              refine loads_tail 9 (by kernel_rfl) (by kernel_rfl) (by kernel_rfl) (by kernel_rfl) ?_
              simp only [List.drop_succ_cons, List.drop_zero]
              rcases hq with rfl | rfl
              · have HE5 := hideIt (show Z = (g : Int) by rw [HZG.out, HNX.out]; rfl)
                go_wp2_with fail
                go_ret
                exact ⟨by rw [HE5.out]; rfl, HB.out.trans ((HL5.out.trans (HL7.out.mono HL5.out.size)).mono HB.out.size)⟩
              · have HE5 := hideIt (show Z = (lfN P (min 4 nn.length - (g + 1)) (g + 1) : Nat) by rw [HZG.out, HNX.out]; rfl)
                go_wp2_with fail
                go_roundg (min 4 nn.length - (g + 1))
                case measure => omega
                case rel => exact ⟨g + 1, by omega, by go_num, HE5.out, HL2.out.trans (HL7.out.mono HL2.out.size)⟩
            · have hgc : ¬ (g : Int) < (nn.length : Int) := by omega
              have HE4 := hideIt (show Z = (g : Int) by rw [HZG.out, lf_end (by omega)])
              clear h4
              go_wp2_with fail
              go_ret
              exact ⟨by rw [HE4.out]; rfl, HB.out.trans (HL5.out.mono HB.out.size)⟩
          · have hg4 : ¬ (g : Int) < 4 := by omega
            have HE4 := hideIt (show Z = (g : Int) by rw [HZG.out, lf_end (by omega)])
            clear h4
            go_wp2_with fail
            go_ret
            exact ⟨by rw [HE4.out]; rfl, HB.out.trans (HL5.out.mono HB.out.size)⟩
end Go.Proofs.YtkfahoaiialndaaGreatDoor
