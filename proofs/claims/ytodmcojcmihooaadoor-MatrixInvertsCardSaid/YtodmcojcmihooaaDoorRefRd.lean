/-
  The reference's Reduce, walked.
-/
import Derived.Test.YtodmcojcmihooaaDoorRefRa
namespace Go.Proofs.YtodmcojcmihooaaDoor
open Go.RowKit
set_option linter.unusedVariables false

set_option maxHeartbeats 4000000 in
set_option maxRecDepth 100000 in
theorem rred_any (m R C cols : Nat) (hm : Fm m) (E : Mx) (hE : Vm m E) (hR : R ≤ 40) (hC : C ≤ 80) (hcl : cols ≤ C) (A : Option Addr) (ca : Nat) (w : World) (hs : MIn w (mkM m R C E) A ca) :
    Calls Tryd.prog 42 #[mtV (m : Int) (R : Int) (C : Int) (.slice A (R * C) ca), .int .i64 (cols : Int)] w (RRes w (mkM m R C (red m R E cols).1) (red m R E cols).2) := by
  obtain ⟨ba, oa, hI, hb⟩ := mk_cell hs
  have hcap := hs.cap
  rw [mk_len] at hcap
  have hRC : R * C ≤ 40 * 80 := Nat.mul_le_mul hR hC
  obtain ⟨w1, hw1⟩ : ∃ w1, w1 = (w.alloc (.cells #[.int .i64 (m : Int), .int .i64 (R : Int), .int .i64 (C : Int), .slice A (R * C) ca] 24)).alloc (.cells #[.int .i64 0, .int .i64 0, .int .i64 0, .slice none 0 0] 24) := ⟨_, rfl⟩
  have hw01 : Below w.heap.size w w1 := by rw [hw1]; exact ((Below.refl _ w).alloc (Nat.le_refl _) _).alloc (by simp) _
  have hba : Blk w1 w.heap.size 24 (mtC (m : Int) (R : Int) (C : Int) (.slice A (R * C) ca)) := by rw [hw1]; exact (Blk.new w _ _).alloc _
  have hpr : Blk w1 (w.heap.size + 1) 24 (mtC 0 0 0 (.slice none 0 0)) := by rw [hw1]; exact Blk.new2 w _ _ _
  have HW1 := hideIt hw1
  have HW01 := hideIt hw01
  have HBA := hideIt hba
  have HPR := hideIt hpr
  have HI := hideIt hI
  have HB := hideIt hb
  have HM := hideIt hm
  have HE := hideIt hE
  have HRD := hideIt (fun c => red_rd hm R hE c)
  have HZS := hideIt (fun W => rzeros_any m R C hR hC W)
  have a0 := hba.cell 0
  have a1 := hba.cell 1
  have a2 := hba.cell 2
  have a3 := hba.cell 3
  clear hw1 hw01 hba hpr hE hm hs hI hb
  go_enter Tryd.func42, Tryd.ntmps42
  go_wp2_with fail
  rw [← HW1.out]
  go_wp2_with (go_at_call 38; refine (HZS.out _).mono ?_; rintro e w5 ⟨gp, rfl, hg, hc, hb5⟩; have HMK := hideIt (Mk.start (m := m) HW01.out HPR.out (Nat.le_succ _) hb5 hg hc rfl); have HB5 := hideIt hb5; have HG := hideIt hg; clear hg hc hb5)
  obtain ⟨w6, hw6⟩ : ∃ w6, w6 = w5.alloc (.cells #[.int .i64 (m : Int), .int .i64 (R : Int), .int .i64 (C : Int), .slice (some ⟨gp, 0, none⟩) (R * C) (R * C)] 24) := ⟨_, rfl⟩
  obtain ⟨p6, hp6⟩ : ∃ p6, p6 = w5.heap.size := ⟨_, rfl⟩
  rw [← hw6, ← hp6]
  have HM0 : Hid (Mk w w6 (w.heap.size + 1) p6 gp m R C w6 (fun _ _ => 0)) := by rw [hw6, hp6]; exact HMK.out
  have HARG := hideIt (ArgM.start HI.out HB.out hcap HBA.out HM0.out.w06 (show Below w1.heap.size w1 w6 by rw [hw6]; exact HB5.out.alloc HB5.out.size _) HG.out HM0.out.gl0)
  clear hw6 hp6 HMK HB5 HG HI HB HBA HPR HW01 HW1 HZS a0 a1 a2 a3
  go_loopg [7] (R * C) (fun gk s7 wr => ∃ k : Nat, k + gk = R * C ∧ s7 = .int .i64 (k : Int) ∧ Aside (Mk w w6 (w.heap.size + 1) p6 gp m R C wr (cpK E C k)))
  case atStart => exact ⟨0, by omega, rfl, HM0.out.congr (fun i j _ _ => by unfold cpK; rw [if_neg (by omega)])⟩
  case round =>
    obtain ⟨k, hk, rfl, HK⟩ := hrel
    by_cases hlt : k < R * C
    · have hinc := inc_c 3 k (by omega)
      obtain ⟨hkR, hkC, hkk⟩ := ix_of hlt
      have hARG := HARG.out.sel HK.out.sel
      have hA := hARG.ints.adr (by omega)
      have hcell := hARG.ints.cell k hlt
      rw [show gl C E k = E (k / C) (k % C) from rfl] at hcell
      subst hA
      have a3 := hARG.box.cell 3
      have b3 := HK.out.box.cell 3
      obtain ⟨hc2, hf2⟩ := HK.out.cell hkR hkC
      rw [← hkk] at hc2 hf2
      have hst := (HK.out.below (Below.refl _ wr).drew).store (x := E (k / C) (k % C)) hkR hkC
      rw [← hkk] at hst
      have HST := hideIt (hst.congr (N := cpK E C (k + 1)) (fun r q _ hq => cpK_next E hlt r q hq))
      have hli : (k : Int) < ((R * C : Nat) : Int) := by omega
      clear HK hARG hst hkR hkC hkk HM0
      generalize E (k / C) (k % C) = x at *
      generalize cpK E C k (k / C) (k % C) = y0 at hc2
      clear hlt
      generalize hn1 : R * C = n1 at *
      go_wp2_with fail
      refine still_tail 9 (by kernel_rfl) (by kernel_rfl) ?_
      intro w3 hw3
      have k0 : w3.cell? ⟨ba, oa + k, none⟩ = some (.int .i64 (x : Int)) := by rw [hw3]; exact hcell
      have k3 : w3.cell? ⟨w.heap.size, 3, none⟩ = some (.slice (some ⟨ba, oa, none⟩) n1 ca) := by rw [hw3]; exact a3
      have l3 : w3.cell? ⟨p6, 3, none⟩ = some (.slice (some ⟨gp, 0, none⟩) n1 n1) := by rw [hw3]; exact b3
      have l4 : w3.cell? ⟨gp, k, none⟩ = some (.int .i64 (y0 : Int)) := by rw [hw3]; exact hc2
      have l5 : w3.frozen? ⟨gp, k, none⟩ = false := by rw [hw3]; exact hf2
      rw [← hw3] at HST
      clear hcell a3 b3 hc2 hf2 hw3
      simp only [List.take_succ_cons, List.take_zero, List.drop_succ_cons, List.drop_zero]
      repeat still_step
      refine wpStill_nil ?_
      go_wp2_with fail
      go_roundg (gk - 1)
      case measure => omega
      case rel => exact ⟨k + 1, by omega, by go_num, HST.out⟩
    · have hli : ¬ (k : Int) < ((R * C : Nat) : Int) := by omega
      obtain rfl : k = R * C := by omega
      have a3 := (HARG.out.sel HK.out.sel).box.cell 3
      have HM1 := hideIt (HK.out.congr (N := (red m R E 0).1) (fun r q hr hq => by unfold cpK; rw [if_pos (ix_lt hr hq)]; rfl))
      have HI0 : Hid (RI w w6 (w.heap.size + 1) p6 gp m R C (red m R E 0).1 (red m R E 0).2 (.slice none 0 0) wr) := hideIt ⟨HM1.out, World.ownsRow_nil _ _ _ _⟩
      clear HK HM1 HM0 hlt
      generalize hn1 : R * C = n1 at *
      go_wp2_with fail
      clear a3 hli HARG
      go_loopg [8, 9] cols (fun gk s8 s9 wr => ∃ (c : Nat) (v : Value), c + gk = cols ∧ s8 = v ∧ s9 = .int .i64 (c : Int) ∧ Aside (RI w w6 (w.heap.size + 1) p6 gp m R C (red m R E c).1 (red m R E c).2 v wr))
      case atStart => exact ⟨0, .slice none 0 0, by omega, rfl, rfl, HI0.out⟩
      case round =>
        obtain ⟨c, v, hck, rfl, rfl, HE0⟩ := hrel
        by_cases hlt : c < cols
        · have hci : (c : Int) < (cols : Int) := by omega
          have HE1 := HE0.out
          have HR1 := HRD.out c
          have HNX := hideIt (show red m R E (c + 1) = stp m R c ((red m R E c).1, (red m R E c).2) from rfl)
          have HFU := hideIt (fun h : (red m R E c).2.length = R => red_full m R E c h (cols - c))
          rw [show c + (cols - c) = cols by omega] at HFU
          have HPAIR : Hid (red m R E c = ((red m R E c).1, (red m R E c).2)) := hideIt rfl
          generalize (red m R E c).1 = M at HE1 HR1 HNX HFU HPAIR
          generalize (red m R E c).2 = pv at HE1 HR1 HNX HFU HPAIR
          obtain ⟨A', c', rfl, hc1, hc2⟩ := own_form HE1.own
          obtain ⟨top, htop⟩ : ∃ top, top = pv.length := ⟨_, rfl⟩
          have htR : top ≤ R := by rw [htop]; exact HR1.len
          rw [← htop] at HE1 ⊢
          have HTOP := hideIt htop
          have HR := hideIt HR1
          have HEE := hideIt HE1
          have b1 := HE1.mat.box.cell 1
          clear HE0 HE1 HR1 htop HI0 hlt hc1 hc2
          by_cases hfull : top < R
          · have hTR : (top : Int) < (R : Int) := by omega
            have hinc0 := inc_c 3 c (by omega)
            obtain ⟨g1, rfl⟩ : ∃ x, x = gk := ⟨gk, rfl⟩
            obtain ⟨w1, rfl⟩ : ∃ x, x = wr := ⟨wr, rfl⟩
            clear HFU HPAIR
            go_wp2_with fail
            clear b1
            go_loopg [11] (R - top) (fun gj s11 W => ∃ i : Nat, i + gj = R ∧ top ≤ i ∧ s11 = .int .i64 (i : Int) ∧ W = w1 ∧ Aside (∀ k, top ≤ k → k < i → M k c = 0))
            case atStart => exact ⟨top, by omega, Nat.le_refl _, rfl, rfl, fun k h1 h2 => absurd h2 (by omega)⟩
            case round =>
              obtain ⟨i, hij, hti, rfl, rfl, HZ⟩ := hrel
              have b1 := HEE.out.mat.box.cell 1
              have b2 := HEE.out.mat.box.cell 2
              have b3 := HEE.out.mat.box.cell 3
              by_cases hiR : i < R
              · have hq := int_eqlF 3 (a := (i : Int)) (b := (R : Int)) (by omega)
                obtain ⟨hcell, _⟩ := HEE.out.mat.cell hiR (show c < C by omega)
                have hl1 := ix_lt hiR (show c < C by omega)
                have hm1 := nmul 3 i C (by omega)
                have hd1 := nadd 3 (i * C) c (by omega)
                have hli1 : ((i * C + c : Nat) : Int) < (n1 : Int) := by omega
                have hiRi : (i : Int) < (R : Int) := by omega
                have hinc := inc_c 3 i (by omega)
                rw [hn1] at b3
                clear hl1
                by_cases hz : M i c = 0
                · have hnq := int_eqlT 3 (a := ((M i c : Nat) : Int)) (b := 0) (by omega)
                  have HZ0 := hideIt hz
                  clear hz
                  generalize M i c = x at hcell hnq
                  generalize i * C + c = y1 at *
                  generalize i * C = y2 at *
                  go_wp2_with fail
                  go_roundg (gk - 1)
                  case measure => omega
                  case rel =>
                    refine ⟨i + 1, by omega, by omega, by go_num, rfl, fun k h1 h2 => ?_⟩
                    by_cases e : k = i
                    · rw [e]; exact HZ0.out
                    · exact HZ.out k h1 (by omega)
                · have hnq := int_eqlF 3 (a := ((M i c : Nat) : Int)) (b := 0) (by omega)
                  have HZ0 := hideIt hz
                  have hpr : prow M R c pv.length = i := prow_is (by rw [← HTOP.out]; exact hti) hiR hz (fun k h1 h2 => HZ.out k (by rw [HTOP.out]; exact h1) h2)
                  have HNX2 : Hid (red m R E (c + 1) = (clr m (swp M top i) top c, pv ++ [c])) := by
                    refine hideIt (HNX.out.trans ?_)
                    unfold stp
                    rw [if_pos (by simp only; rw [hpr]; exact hiR)]
                    simp only
                    rw [hpr, HTOP.out]
                  have HMV := hideIt HR.out.v
                  have HIV := hideIt (fun W => rinv_is HM.out (HMV.out i c) hz W)
                  have HIL := hideIt (inv_lt HM.out (M i c))
                  have HSW := hideIt (fun r q hq => swK_all m M i top c C r q hq)
                  have HN : Hid (swp M top i top c = M i c) := hideIt (by unfold swp; rw [if_pos rfl])
                  obtain ⟨ivv, hiv⟩ : ∃ x, x = inv m (M i c) := ⟨_, rfl⟩
                  rw [← hiv] at HIV HIL HSW
                  have HIE := hideIt hiv
                  clear hz hpr hiv HZ HR HNX
                  have b0 := HEE.out.mat.box.cell 0
                  obtain ⟨x, hx⟩ : ∃ x, x = M i c := ⟨_, rfl⟩
                  rw [← hx] at hcell hnq HIV
                  clear hx
                  generalize i * C + c = y1 at *
                  generalize i * C = y2 at *
                  go_wp2_with fail
                  go_quiet ((go_at_call 51; refine (HIV.out _).mono ?_; rintro e w' ⟨rfl, hw⟩; exact ⟨rfl, _, hw.symm⟩))
                  obtain ⟨w2, hw2⟩ : ∃ W, W = wr.drewN nq := ⟨_, rfl⟩
                  try rw [← hw2]
                  have HE2 := hideIt (show RI w w6 (w.heap.size + 1) p6 gp m R C M pv (.slice A' top c') w2 by rw [hw2]; exact HEE.out.below (below_drewN (Below.refl _ _) _))
                  clear hw2 HEE hcell b0 b1 b2 b3 hm1 hd1 hli1 hnq HIV hq
                  obtain ⟨g2, rfl⟩ : ∃ x, x = gk := ⟨gk, rfl⟩
                  go_wp2_with fail
                  go_loopg [14] C (fun gk s14 W => ∃ k : Nat, k + gk = C ∧ s14 = .int .i64 (k : Int) ∧ Aside (RI w w6 (w.heap.size + 1) p6 gp m R C (swK m M i top ivv k) pv (.slice A' top c') W))
                  case atStart => exact ⟨0, by omega, rfl, HE2.out.congr (fun r q _ _ => (swK_zero m M i top ivv r q).symm)⟩
                  case round =>
                    obtain ⟨k, hkC, rfl, HK⟩ := hrel
                    have b2 := HK.out.mat.box.cell 2
                    by_cases hltk : k < C
                    · have hkCi : (k : Int) < (C : Int) := by omega
                      have hinck := inc_c 3 k (by omega)
                      have b0 := HK.out.mat.box.cell 0
                      have b3 := HK.out.mat.box.cell 3
                      rw [hn1] at b3
                      obtain ⟨hc1, hf1⟩ := HK.out.mat.cell hiR hltk
                      obtain ⟨hc2, hf2⟩ := HK.out.mat.cell hfull hltk
                      rw [swK_at] at hc1 hc2
                      have hl1 := ix_lt hiR hltk
                      have hl2 := ix_lt hfull hltk
                      have hm1 := nmul 3 i C (by omega)
                      have hm2 := nmul 3 top C (by omega)
                      have hd1 := nadd 3 (i * C) k (by omega)
                      have hd2 := nadd 3 (top * C) k (by omega)
                      have hli1 : ((i * C + k : Nat) : Int) < (n1 : Int) := by omega
                      have hli2 : ((top * C + k : Nat) : Int) < (n1 : Int) := by omega
                      have HST1 := hideIt ((HK.out.below (Below.refl _ wr).drew).store (x := M top k) hiR hltk)
                      have HST2 := hideIt (fun (W : World) (Z : Mx) (h : RI w w6 (w.heap.size + 1) p6 gp m R C Z pv (.slice A' top c') W) => (h.below (Below.refl _ W).drew).store (x := mul m ivv (M i k)) hfull hltk)
                      have HB2 := hideIt (fun (W : World) (Z : Mx) (h : RI w w6 (w.heap.size + 1) p6 gp m R C Z pv (.slice A' top c') W) => h.mat.box)
                      have HC2 := hideIt (fun (W : World) (Z : Mx) (h : RI w w6 (w.heap.size + 1) p6 gp m R C Z pv (.slice A' top c') W) => h.mat.cell hfull hltk)
                      have HTI := hideIt (fun W => (rtimes_any m ivv (M i k) HM.out HIL.out (HMV.out i k) W).mono (R' := fun e w' => e = .returned (.int .i64 ((mul m ivv (M i k) : Nat) : Int)) ∧ w' = W) (fun e w' h => ⟨h.1, h.2.symm⟩))
                      have HNX := hideIt (swK_next HM.out HMV.out i top ivv k (M top k) (mul m ivv (M i k)) HIL.out rfl rfl)
                      clear HK hl1 hl2 HE2
                      generalize mul m ivv (M i k) = z2 at HST2 HTI HNX
                      generalize M i k = x1 at hc1 HTI
                      generalize M top k = x2 at hc2 HST1 HNX
                      generalize i * C + k = y1 at *
                      generalize top * C + k = y2 at *
                      generalize i * C = y3 at *
                      generalize top * C = y4 at *
                      go_wp2_with fail
                      refine still_tail 19 (by kernel_rfl) (by kernel_rfl) ?_
                      intro w3 hw3
                      have k1 : w3.cell? ⟨gp, y1, none⟩ = some (.int .i64 (x1 : Int)) := by rw [hw3]; exact hc1
                      have k2 : w3.cell? ⟨gp, y2, none⟩ = some (.int .i64 (x2 : Int)) := by rw [hw3]; exact hc2
                      have l2 : w3.cell? ⟨p6, 2, none⟩ = some (.int .i64 (C : Int)) := by rw [hw3]; exact b2
                      have l3 : w3.cell? ⟨p6, 3, none⟩ = some (.slice (some ⟨gp, 0, none⟩) n1 n1) := by rw [hw3]; exact b3
                      have l5 : w3.frozen? ⟨gp, y1, none⟩ = false := by rw [hw3]; exact hf1
                      rw [← hw3] at HST1
                      clear hc1 hc2 b0 b2 b3 hf1 hf2 hw3
                      simp only [List.take_succ_cons, List.take_zero, List.drop_succ_cons, List.drop_zero]
                      repeat still_step
                      refine wpStill_nil ?_
                      go_wp2_with fail
                      clear k1 k2 l2 l3 l5
                      generalize w3.setCell ⟨gp, y1, none⟩ (.int .i64 (x2 : Int)) = w4 at *
                      have b0 := (HB2.out _ _ HST1.out).cell 0
                      have b2 := (HB2.out _ _ HST1.out).cell 2
                      have b3 := (HB2.out _ _ HST1.out).cell 3
                      rw [hn1] at b3
                      obtain ⟨hc2, hf2⟩ := HC2.out _ _ HST1.out
                      have HS4 := hideIt (HST2.out _ _ HST1.out)
                      obtain ⟨y0, hy0⟩ : ∃ y, y = upd2 (swK m M i top ivv k) i k x2 top k := ⟨_, rfl⟩
                      rw [← hy0] at hc2
                      clear HST1 HST2 HB2 HC2 hy0
                      refine still_tail 14 (by kernel_rfl) (by kernel_rfl) ?_
                      intro w5 hw5
                      have k2 : w5.cell? ⟨gp, y2, none⟩ = some (.int .i64 (y0 : Int)) := by rw [hw5]; exact hc2
                      have l0 : w5.cell? ⟨p6, 0, none⟩ = some (.int .i64 (m : Int)) := by rw [hw5]; exact b0
                      have l2 : w5.cell? ⟨p6, 2, none⟩ = some (.int .i64 (C : Int)) := by rw [hw5]; exact b2
                      have l3 : w5.cell? ⟨p6, 3, none⟩ = some (.slice (some ⟨gp, 0, none⟩) n1 n1) := by rw [hw5]; exact b3
                      have l5 : w5.frozen? ⟨gp, y2, none⟩ = false := by rw [hw5]; exact hf2
                      rw [← hw5] at HS4
                      have HT5 := HTI.out w5
                      clear hc2 b0 b2 b3 hf2 hw5 HTI
                      simp only [List.take_succ_cons, List.take_zero, List.drop_succ_cons, List.drop_zero]
                      repeat still_step
                      still_call HT5
                      repeat still_step
                      refine wpStill_nil ?_
                      go_wp2_with fail
                      go_roundg (gk - 1)
                      case measure => omega
                      case rel => exact ⟨k + 1, by omega, by go_num, by have h := HS4.out; rw [HNX.out] at h; exact h⟩
                    · have hkCi : ¬ (k : Int) < (C : Int) := by omega
                      obtain rfl : k = C := by omega
                      have HE3 := hideIt (HK.out.congr (fun r q _ hq => HSW.out r q hq))
                      have HNV := hideIt (swp_v HMV.out top i)
                      clear HK HE2 HSW
                      generalize swp M top i = N at *
                      rw [← HN.out] at HIE
                      go_wp2_with fail
                      clear b2
                      go_loopg [16] R (fun gk s16 W => ∃ x : Nat, x + gk = R ∧ s16 = .int .i64 (x : Int) ∧ Aside (RI w w6 (w.heap.size + 1) p6 gp m R k (half m N top c x) pv (.slice A' top c') W))
                      case atStart => exact ⟨0, by omega, rfl, HE3.out⟩
                      case round =>
                        obtain ⟨x, hx, rfl, HL⟩ := hrel
                        have b1 := HL.out.mat.box.cell 1
                        by_cases hxR : x < R
                        · have hxi : (x : Int) < (R : Int) := by omega
                          have hinc := inc_c 3 x (by omega)
                          have b2 := HL.out.mat.box.cell 2
                          have b3 := HL.out.mat.box.cell 3
                          rw [hn1] at b3
                          have hck : c < k := by omega
                          obtain ⟨hcell, _⟩ := HL.out.mat.cell hxR hck
                          have hl1 := ix_lt hxR hck
                          have hm1 := nmul 3 x k (by omega)
                          have hd1 := nadd 3 (x * k) c (by omega)
                          have hli1 : ((x * k + c : Nat) : Int) < (n1 : Int) := by omega
                          clear hl1 HE3
                          by_cases hxt : x = top
                          · have hnq := int_eqlT 3 (a := (x : Int)) (b := (top : Int)) (by omega)
                            have HE4 := hideIt (show RI w w6 (w.heap.size + 1) p6 gp m R k (half m N top c (x + 1)) pv (.slice A' top c') wr by have h := HL.out; rw [show half m N top c x = half m N top c (x + 1) by rw [hxt]; exact half_skip m N top c] at h; exact h)
                            clear hxt HL
                            generalize half m N top c x x c = y0 at hcell
                            generalize x * k + c = y1 at *
                            generalize x * k = y2 at *
                            go_wp2_with fail
                            go_roundg (gk - 1)
                            case measure => omega
                            case rel => exact ⟨x + 1, by omega, by go_num, HE4.out⟩
                          · have hnq := int_eqlF 3 (a := (x : Int)) (b := (top : Int)) (by omega)
                            rw [half_at hxt] at hcell
                            by_cases hz : N x c = 0
                            · have hzq := int_eqlT 3 (a := ((N x c : Nat) : Int)) (b := 0) (by omega)
                              have HE4 := hideIt (show RI w w6 (w.heap.size + 1) p6 gp m R k (half m N top c (x + 1)) pv (.slice A' top c') wr by have h := HL.out; rw [half_skip0 m N top c x hz] at h; exact h)
                              clear hxt HL hz
                              generalize N x c = y0 at hcell hzq
                              generalize x * k + c = y1 at *
                              generalize x * k = y2 at *
                              go_wp2_with fail
                              go_roundg (gk - 1)
                              case measure => omega
                              case rel => exact ⟨x + 1, by omega, by go_num, HE4.out⟩
                            · have hzq := int_eqlF 3 (a := ((N x c : Nat) : Int)) (b := 0) (by omega)
                              have HE4 := hideIt HL.out
                              have HXT := hideIt hxt
                              obtain ⟨f, hf⟩ : ∃ f, f = N x c := ⟨_, rfl⟩
                              rw [← hf] at hcell hzq
                              have HF := hideIt hf
                              clear hxt HL hz hf
                              generalize x * k + c = y1 at *
                              generalize x * k = y2 at *
                              obtain ⟨g3, rfl⟩ : ∃ x, x = gk := ⟨gk, rfl⟩
                              go_wp2_with fail
                              clear b1 b2 b3 hcell hm1 hd1 hli1 hnq hzq
                              go_loopg [18] k (fun gk s18 W => ∃ j : Nat, j + gk = k ∧ s18 = .int .i64 (j : Int) ∧ Aside (RI w w6 (w.heap.size + 1) p6 gp m R k (mixK (half m N top c x) (half m N top c (x + 1)) x j) pv (.slice A' top c') W))
                              case atStart => exact ⟨0, by omega, rfl, HE4.out.congr (fun r q _ _ => (mixK_zero _ _ x r q).symm)⟩
                              case round =>
                                obtain ⟨j, hj, rfl, HJ⟩ := hrel
                                have b2 := HJ.out.mat.box.cell 2
                                by_cases hltj : j < k
                                · have hji : (j : Int) < (k : Int) := by omega
                                  have hincj := inc_c 3 j (by omega)
                                  have b0 := HJ.out.mat.box.cell 0
                                  have b3 := HJ.out.mat.box.cell 3
                                  rw [hn1] at b3
                                  obtain ⟨hc1, hf1⟩ := HJ.out.mat.cell hxR hltj
                                  obtain ⟨hc2, hf2⟩ := HJ.out.mat.cell hfull hltj
                                  rw [mixK_at] at hc1 hc2
                                  have hl1 := ix_lt hxR hltj
                                  have hl2 := ix_lt hfull hltj
                                  have hm1 := nmul 3 x k (by omega)
                                  have hm2 := nmul 3 top k (by omega)
                                  have hd1 := nadd 3 (x * k) j (by omega)
                                  have hd2 := nadd 3 (top * k) j (by omega)
                                  have hli1 : ((x * k + j : Nat) : Int) < (n1 : Int) := by omega
                                  have hli2 : ((top * k + j : Nat) : Int) < (n1 : Int) := by omega
                                  have hfv : f < 2 ^ m := by rw [HF.out]; exact HNV.out x c
                                  have hhv := half_v HM.out HNV.out top c x
                                  have HTI := hideIt (fun W => (rtimes_any m f (half m N top c x top j) HM.out hfv (hhv top j) W).mono (R' := fun e w' => e = .returned (.int .i64 ((mul m f (half m N top c x top j) : Nat) : Int)) ∧ w' = W) (fun e w' h => ⟨h.1, h.2.symm⟩))
                                  have hxo := nxor 3 (half m N top c x x j) (mul m f (half m N top c x top j)) (Nat.lt_of_lt_of_le (hhv x j) (Nat.le_trans (fm_big HM.out) (by decide))) (Nat.lt_of_lt_of_le (mul_lt HM.out _ hfv) (Nat.le_trans (fm_big HM.out) (by decide)))
                                  have HST := hideIt ((HJ.out.below (Below.refl _ wr).drew).store (x := half m N top c x x j ^^^ mul m f (half m N top c x top j)) hxR hltj)
                                  have HNX := hideIt (mixK_next (half m N top c x) (half m N top c (x + 1)) x j (half m N top c x x j ^^^ mul m f (half m N top c x top j)) (by rw [HF.out]; exact half_new HM.out HNV.out HXT.out j))
                                  clear HJ hl1 hl2 HE4 hfv hhv
                                  generalize mul m f (half m N top c x top j) = z1 at *
                                  generalize half m N top c x x j = x1 at *
                                  generalize half m N top c x top j = x2 at *
                                  generalize x1 ^^^ z1 = z2 at *
                                  generalize x * k + j = y3 at *
                                  generalize top * k + j = y4 at *
                                  generalize x * k = y5 at *
                                  generalize top * k = y6 at *
                                  go_wp2_with fail
                                  refine still_tail 34 (by kernel_rfl) (by kernel_rfl) ?_
                                  intro w3 hw3
                                  have k1 : w3.cell? ⟨gp, y3, none⟩ = some (.int .i64 (x1 : Int)) := by rw [hw3]; exact hc1
                                  have k2 : w3.cell? ⟨gp, y4, none⟩ = some (.int .i64 (x2 : Int)) := by rw [hw3]; exact hc2
                                  have l0 : w3.cell? ⟨p6, 0, none⟩ = some (.int .i64 (m : Int)) := by rw [hw3]; exact b0
                                  have l2 : w3.cell? ⟨p6, 2, none⟩ = some (.int .i64 (k : Int)) := by rw [hw3]; exact b2
                                  have l3 : w3.cell? ⟨p6, 3, none⟩ = some (.slice (some ⟨gp, 0, none⟩) n1 n1) := by rw [hw3]; exact b3
                                  have l5 : w3.frozen? ⟨gp, y3, none⟩ = false := by rw [hw3]; exact hf1
                                  rw [← hw3] at HST
                                  have HT3 := HTI.out w3
                                  clear hc1 hc2 b0 b2 b3 hf1 hf2 hw3 HTI
                                  simp only [List.take_succ_cons, List.take_zero, List.drop_succ_cons, List.drop_zero]
                                  repeat still_step
                                  still_call HT3
                                  repeat still_step
                                  refine wpStill_nil ?_
                                  go_wp2_with fail
                                  go_roundg (gk - 1)
                                  case measure => omega
                                  case rel => exact ⟨j + 1, by omega, by go_num, by have h := HST.out; rw [HNX.out] at h; exact h⟩
                                · have hji : ¬ (j : Int) < (k : Int) := by omega
                                  obtain rfl : j = k := by omega
                                  have HE5 := hideIt (HJ.out.congr (fun r q _ hq => mixK_all m N top c x j r q hq))
                                  clear HJ HE4
                                  go_wp2_with fail
                                  go_roundg (g3 - 1)
                                  case measure => omega
                                  case rel => exact ⟨x + 1, by omega, by go_num, HE5.out⟩
                        · have hxi : ¬ (x : Int) < (R : Int) := by omega
                          obtain rfl : x = R := by omega
                          have HE6 := hideIt (HL.out.congr (fun r j hr hj => half_all m N top c x r j hr))
                          have HTL := hideIt (show pv.length ≤ 100 by rw [← HTOP.out]; omega)
                          have HIO := hideIt (own_kept HE6.out.own (below_new wr (.cells #[.int .i64 (c : Int)] 3)))
                          obtain ⟨i0, hi, hz0, hz1, hz2⟩ := info_parts (show (Tryd.prog.info? 3).map (fun i => (i.zero, i.size, i.bytes)) = some (some (Value.int .i64 0), 1, 8) by kernel_rfl)
                          have HIN := hideIt (And.intro hi (And.intro hz0 (And.intro hz1 hz2)))
                          clear HL HE3 hi hz0 hz1 hz2
                          go_wp2_with ((with_reducible refine at_append ?_); refine wpList_app rfl (.tmp 208) (.tmp 210) 22 rfl w6.heap.size 3 i0 (.int .i64 0) 1 8 Tryd.underlying22 HIN.out.1 HIN.out.2.1 HIN.out.2.2.1 HIN.out.2.2.2 rfl (by decide) (.slice A' top c') pv.length (pvC pv) rfl HIO.out _ _ 1 _ [.int .i64 (c : Int)] rfl (sl_one _ _ _) (ones_one rfl) (by unfold maxLen; have := HTL.out; omega) (by have := HTL.out; omega) (by have := HE6.out.sz; simp only [World.size_alloc]; omega) ?_; intro v9 w9 ho9 hb9; have HO9 := own_is (n' := (pv ++ [c]).length) (xs' := pvC (pv ++ [c])) ho9 (by rw [List.length_append]; rfl) (pvC_snoc pv c).symm; have HE9 := hideIt (HE6.out.app (((below_new _ _).mono HE6.out.sz).trans hb9) HO9.out); clear ho9 hb9 HO9)
                          go_roundg (g1 - 1)
                          case measure => omega
                          case rel => exact ⟨c + 1, _, by omega, rfl, by go_num, by rw [HNX2.out]; exact HE9.out⟩
              · have hiRi : ¬ (i : Int) < (R : Int) := by omega
                obtain rfl : i = R := by omega
                have hq := int_eqlT 3 (a := (i : Int)) (b := (i : Int)) rfl
                have hpr : prow M i c pv.length = i := prow_none (by rw [← HTOP.out]; exact htR) (fun k h1 h2 => HZ.out k (by rw [HTOP.out]; exact h1) h2)
                have HNX2 : Hid (red m i E (c + 1) = (M, pv)) := by
                  refine hideIt (HNX.out.trans ?_)
                  unfold stp
                  rw [if_neg (by simp only; rw [hpr]; omega)]
                clear hpr HZ b2 b3
                go_wp2_with fail
                go_roundg (g1 - 1)
                case measure => omega
                case rel => exact ⟨c + 1, _, by omega, rfl, by go_num, by rw [HNX2.out]; exact HEE.out⟩
          · have hTR : ¬ (top : Int) < (R : Int) := by omega
            have HRES : Hid (red m R E cols = (M, pv)) := hideIt ((HFU.out (by rw [← HTOP.out]; omega)).trans HPAIR.out)
            clear HFU HPAIR HNX HR
            go_wp2_with (first
              | ((with_reducible refine at_load ?_); refine wpList_ldM rfl (.tmp 6) rfl p6 _ _ _ _ rfl HEE.out.mat.box ?_)
              | ((with_reducible refine at_store ?_); refine wpList_stM rfl (.tmp 4) (.tmp 212) rfl (w.heap.size + 1) _ _ _ _ _ _ _ _ rfl rfl rfl HEE.out.mat.res ?_; intro w8 HT8 HB8))
            refine bodyPost_ret (results_two rfl _ _ (w.heap.size + 1) _ _ _ rfl HB8.out Tryd.underlying24 rfl isz4) rfl ?_
            have h := HEE.out.fin hR hC HT8.out
            try rw [hn1] at h
            rw [HRES.out]
            exact h
        · have hci : ¬ (c : Int) < (cols : Int) := by omega
          obtain rfl : c = cols := by omega
          have HEE := hideIt HE0.out
          clear HE0 HI0 hlt
          generalize red m R E c = rr at *
          obtain ⟨M, pv⟩ := rr
          go_wp2_with (first
            | ((with_reducible refine at_load ?_); refine wpList_ldM rfl (.tmp 6) rfl p6 _ _ _ _ rfl HEE.out.mat.box ?_)
            | ((with_reducible refine at_store ?_); refine wpList_stM rfl (.tmp 4) (.tmp 212) rfl (w.heap.size + 1) _ _ _ _ _ _ _ _ rfl rfl rfl HEE.out.mat.res ?_; intro w8 HT8 HB8))
          refine bodyPost_ret (results_two rfl _ _ (w.heap.size + 1) _ _ _ rfl HB8.out Tryd.underlying24 rfl isz4) rfl ?_
          have h := HEE.out.fin hR hC HT8.out
          try rw [hn1] at h
          exact h
end Go.Proofs.YtodmcojcmihooaaDoor
