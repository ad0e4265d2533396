/-
  The reference's Solve, walked.
-/
import Derived.Test.YtodmcojcmihooaaDoorRefBs
namespace Go.Proofs.YtodmcojcmihooaaDoor
open Go.RowKit
set_option linter.unusedVariables false

set_option maxHeartbeats 2000000 in
set_option maxRecDepth 100000 in
theorem rsolve_any (a b : Mt) (A B : Option Addr) (ca cb : Nat) (w : World) (hsa : MIn w a A ca) (hsb : MIn w b B cb) :
    Calls Tryd.prog 33 #[mtV a.F a.R a.C (.slice A a.l.length ca), mtV b.F b.R b.C (.slice B b.l.length cb)] w (MRes w (solveM a b)) := by
  have HVA := hideIt (rvalid_b hsa)
  have HVB := hideIt (rvalid_b hsb)
  obtain ⟨r, hr⟩ : ∃ r, r = solveM a b := ⟨_, rfl⟩
  rw [← hr]
  have HR := hideIt hr
  clear hr
  by_cases hva : vM a = true
  · by_cases hvb : vM b = true
    · by_cases hF : a.F = b.F
      · by_cases hC : a.R = b.R
        · rw [hva] at HVA
          rw [hvb] at HVB
          obtain ⟨m, R, C, hm, hRl, hCl, hE, ha⟩ := vM_is hva
          obtain ⟨m2, R2, C2, hm2, hRl2, hCl2, hE2, hb⟩ := vM_is hvb
          have HR2 : Hid (r = solF a.F.toNat a.R.toNat a.C.toNat b.C.toNat (red a.F.toNat a.R.toNat (sideM a.C.toNat a.e b.e) a.C.toNat)) := hideIt (by rw [HR.out]; exact if_pos ⟨hva, hvb, hF, hC⟩)
          generalize a.e = E at ha hE HR2
          generalize b.e = E2 at hb hE2 HR2
          subst ha
          subst hb
          have e1 : m = m2 := Int.ofNat.inj hF
          have e2 : R = R2 := Int.ofNat.inj hC
          subst e1 e2
          rw [mk_len] at HVA
          rw [mk_len] at HVB
          rw [mk_len, mk_len]
          change Hid (r = solF ((m : Int)).toNat ((R : Int)).toNat ((C : Int)).toNat ((C2 : Int)).toNat (red ((m : Int)).toNat ((R : Int)).toNat (sideM ((C : Int)).toNat E E2) ((C : Int)).toNat)) at HR2
          rw [Int.toNat_natCast, Int.toNat_natCast, Int.toNat_natCast, Int.toNat_natCast] at HR2
          have HSD := hideIt (fun W (hW : Below w.heap.size w W) => rside_any m R C C2 E E2 (by omega) (by omega) (by omega) A B ca cb W (hsa.keep hW) (hsb.keep hW))
          have HRE := hideIt (fun D c W (h : MIn W (mkM m R (C + C2) (sideM C E E2)) D c) => rred_any m R (C + C2) C hm (sideM C E E2) (side_v (C := C) hE hE2) (by omega) (by omega) (by omega) D c W h)
          have HRD := hideIt (red_rd hm R (side_v (C := C) hE hE2) C)
          obtain ⟨n, hn⟩ : ∃ n, n = C + C2 := ⟨_, rfl⟩
          rw [← hn] at HSD HRE
          obtain ⟨S, hS⟩ : ∃ S, S = sideM C E E2 := ⟨_, rfl⟩
          rw [← hS] at HSD HRE HRD HR2
          clear hS
          have hnl : n ≤ 64 := by omega
          have HN := hideIt hn
          clear hn
          have hq1 := int_neqF6 3 (a := (m : Int)) rfl
          have hq2 := int_neqF6 3 (a := (R : Int)) rfl
          clear hva hvb hF hC hsa hsb HR hE hE2 hm hm2 hRl2
          show Calls Tryd.prog 33 #[mtV (m : Int) (R : Int) (C : Int) (.slice A (R * C) ca), mtV (m : Int) (R : Int) (C2 : Int) (.slice B (R * C2) cb)] w _
          change Hid (∀ W, Below w.heap.size w W → Calls Tryd.prog 22 #[mtV (m : Int) (R : Int) (C : Int) (.slice A (R * C) ca)] W fun e w' => e = .returned (.bool true) ∧ Below W.heap.size W w') at HVA
          change Hid (∀ W, Below w.heap.size w W → Calls Tryd.prog 22 #[mtV (m : Int) (R : Int) (C2 : Int) (.slice B (R * C2) cb)] W fun e w' => e = .returned (.bool true) ∧ Below W.heap.size W w') at HVB
          obtain ⟨w1, hw1⟩ : ∃ w1, w1 = ((w.alloc (.cells #[.int .i64 (m : Int), .int .i64 (R : Int), .int .i64 (C : Int), .slice A (R * C) ca] 24)).alloc (.cells #[.int .i64 (m : Int), .int .i64 (R : Int), .int .i64 (C2 : Int), .slice B (R * C2) cb] 24)).alloc (.cells #[.int .i64 0, .int .i64 0, .int .i64 0, .slice none 0 0] 24) := ⟨_, rfl⟩
          have hw01 : Below w.heap.size w w1 := by rw [hw1]; exact (((Below.refl _ w).alloc (Nat.le_refl _) _).alloc (by simp) _).alloc (by simp; omega) _
          have hba : Blk w1 w.heap.size 24 (mtC (m : Int) (R : Int) (C : Int) (.slice A (R * C) ca)) := by rw [hw1]; exact ((Blk.new w _ _).alloc _).alloc _
          have hbb : Blk w1 (w.heap.size + 1) 24 (mtC (m : Int) (R : Int) (C2 : Int) (.slice B (R * C2) cb)) := by rw [hw1]; exact (Blk.new2 w _ _ _).alloc _
          have hpr : Blk w1 (w.heap.size + 1 + 1) 24 (mtC 0 0 0 (.slice none 0 0)) := by
            rw [hw1]
            have h := Blk.new ((w.alloc (.cells #[.int .i64 (m : Int), .int .i64 (R : Int), .int .i64 (C : Int), .slice A (R * C) ca] 24)).alloc (.cells #[.int .i64 (m : Int), .int .i64 (R : Int), .int .i64 (C2 : Int), .slice B (R * C2) cb] 24)) 24 (mtC 0 0 0 (.slice none 0 0))
            rw [World.size_alloc, World.size_alloc] at h
            exact h
          have HW1 := hideIt hw1
          have HW01 := hideIt hw01
          have HBA := hideIt hba
          have HBB := hideIt hbb
          have HPR := hideIt hpr
          have a0 := hba.cell 0
          have a1 := hba.cell 1
          have a2 := hba.cell 2
          have a3 := hba.cell 3
          clear hw1 hw01 hba hbb hpr
          go_enter Tryd.func33, Tryd.ntmps33
          go_wp2_with fail
          rw [← HW1.out]
          refine (HVA.out w1 HW01.out).mono ?_
          rintro e w2 ⟨rfl, hb2⟩
          have HBA2 := hideIt (HBA.out.kept hb2 HBA.out.lt)
          have HBB2 := hideIt (HBB.out.kept hb2 HBB.out.lt)
          have HPR2 := hideIt (HPR.out.kept hb2 HPR.out.lt)
          have HW02 := hideIt (HW01.out.trans (hb2.mono HW01.out.size))
          clear hb2 HW1 HW01 HBA HBB HPR HVA a0 a1 a2 a3
          have b0 := HBB2.out.cell 0
          have b1 := HBB2.out.cell 1
          have b2 := HBB2.out.cell 2
          have b3 := HBB2.out.cell 3
          go_wp2_with fail
          refine (HVB.out w2 HW02.out).mono ?_
          rintro e w3 ⟨rfl, hb3⟩
          have HBA3 := hideIt (HBA2.out.kept hb3 HBA2.out.lt)
          have HBB3 := hideIt (HBB2.out.kept hb3 HBB2.out.lt)
          have HPR3 := hideIt (HPR2.out.kept hb3 HPR2.out.lt)
          have HW03 := hideIt (HW02.out.trans (hb3.mono HW02.out.size))
          clear b0 b1 b2 b3 hb3 HW02 HBA2 HBB2 HPR2 HVB
          have a0 := HBA3.out.cell 0
          have a1 := HBA3.out.cell 1
          have a2 := HBA3.out.cell 2
          have b0 := HBB3.out.cell 0
          have b1 := HBB3.out.cell 1
          have b2 := HBB3.out.cell 2
          obtain ⟨s0, hs0⟩ : ∃ s0, s0 = red m R S C := ⟨_, rfl⟩
          rw [← hs0] at HRE HRD HR2
          clear hs0
          obtain ⟨M, pv⟩ := s0
          have HRE2 : Hid (∀ D c W, MIn W (mkM m R n S) D c → Calls Tryd.prog 42 #[mtV (m : Int) (R : Int) (n : Int) (.slice D (R * n) c), .int .i64 (C : Int)] W (RRes W (mkM m R n M) pv)) := HRE
          have hRD : Rd m R S C M pv := HRD.out
          have HRD2 := hideIt hRD
          have HR3 : Hid (r = solF m R C C2 (M, pv)) := HR2
          obtain ⟨p, hp⟩ : ∃ p, p = pv.length := ⟨_, rfl⟩
          have hpR : p ≤ R := by rw [hp]; exact hRD.len
          have HP := hideIt hp
          have HHK : Hid (∀ W' bt, Below w3.heap.size w3 W' → Hooks [(2, fun W => Blk W w.heap.size 24 (mtC (m : Int) (R : Int) (C : Int) (.slice A (R * C) ca))), (2, fun W => Blk W (w.heap.size + 1) 24 (mtC (m : Int) (R : Int) (C2 : Int) (.slice B (R * C2) cb))), (5, fun W => W.cell? ⟨w.heap.size, 2, none⟩ = some (.int .i64 (C : Int)))] bt W') := hideIt (fun W' bt hb' => Hooks.add (HBA3.out.kept hb' HBA3.out.lt) (Hooks.add (HBB3.out.kept hb' HBB3.out.lt) (Hooks.add ((HBA3.out.kept hb' HBA3.out.lt).cell 2) (Hooks.nil _ _))))
          clear hp hRD HRD HRE HR2
          go_upto_region 5 with fail
          clear a0 a1 a2 b0 b1 b2 hq1 hq2
          go_cut [8, 9] (fun s8 s9 W => ∃ (p8 : Nat) (A2 : Option Addr) (c2 : Nat), s8 = .pointer (some ⟨p8, 0, none⟩) ∧ s9 = .slice A2 p c2 ∧ Aside (SJ w3 m R n p M pv A2 p8 W))
          case first =>
            have hww : Below w3.heap.size w3 w3.drew := (Below.refl _ _).drew
            refine loads_begin_n 12 [(2, fun W => Blk W w.heap.size 24 (mtC (m : Int) (R : Int) (C : Int) (.slice A (R * C) ca))), (2, fun W => Blk W (w.heap.size + 1) 24 (mtC (m : Int) (R : Int) (C2 : Int) (.slice B (R * C2) cb))), (5, fun W => W.cell? ⟨w.heap.size, 2, none⟩ = some (.int .i64 (C : Int)))] rfl (by kernel_rfl) ?_
            refine wpAnyL_take (oi := ⟨some 40, _, _, _, _, _⟩) 0 2 (mtV (m : Int) (R : Int) (C : Int) (.slice A (R * C) ca)) _ rfl (by kernel_rfl) (by kernel_rfl) (by kernel_rfl) (by kernel_rfl) (by kernel_rfl) (by kernel_rfl) (.head _) (fun _ _ _ h => h) (by kernel_rfl) (fun W' hW' => exec_ld rfl (ld_mt hW')) (HHK.out _ _ hww) ?_
            try simp only [Act.put]
            try simp only [List.setIfInBounds_toArray]
            try simp only [List.set_cons_succ]
            try simp only [List.set_cons_zero]
            refine wpAnyL_take (oi := ⟨some 41, _, _, _, _, _⟩) 1 2 (mtV (m : Int) (R : Int) (C2 : Int) (.slice B (R * C2) cb)) _ rfl (by kernel_rfl) (by kernel_rfl) (by kernel_rfl) (by kernel_rfl) (by kernel_rfl) (by kernel_rfl) (.tail _ (.head _)) (fun _ _ _ h => h) (by kernel_rfl) (fun W' hW' => exec_ld rfl (ld_mt hW')) (HHK.out _ _ hww) ?_
            try simp only [Act.put]
            try simp only [List.setIfInBounds_toArray]
            try simp only [List.set_cons_succ]
            try simp only [List.set_cons_zero]
            refine wpAnyL_move (oi := ⟨some 43, _, _, _, _, _⟩) 3 ?_ rfl (by kernel_rfl) (by kernel_rfl) (by kernel_rfl) (by kernel_rfl) (fun _ _ _ h => h) (by kernel_rfl) ?_ (HHK.out _ _ hww) ?_
            rotate_left
            · intro W'; go_simp; first | done | with_reducible rfl
            try simp only [Act.put]
            try simp only [List.setIfInBounds_toArray]
            try simp only [List.set_cons_succ]
            try simp only [List.set_cons_zero]
            refine wpAnyL_take (oi := ⟨some 44, _, _, _, _, _⟩) 4 5 (.int .i64 (C : Int)) _ rfl (by kernel_rfl) (by kernel_rfl) (by kernel_rfl) (by kernel_rfl) (by kernel_rfl) (by kernel_rfl) (.tail _ (.tail _ (.head _))) (fun _ _ _ h => h) (by kernel_rfl) (fun W' hW' => by have h := hW'; simp [execOp, h, go_sem]) (HHK.out _ _ hww) ?_
            try simp only [Act.put]
            try simp only [List.setIfInBounds_toArray]
            try simp only [List.set_cons_succ]
            try simp only [List.set_cons_zero]
            have HWW := hideIt hww
            generalize w3.drew = wd at *
            clear hww
            refine wpAnyL_two (oi := ⟨some 42, _, _, _, _, _⟩) (oj := ⟨some 8, _, _, _, _, _⟩) 2 9 (by kernel_rfl) rfl rfl (fun K hK => ?_) (fun K hK => ?_)
            · go_wp2_with (go_at_call 47; refine (HSD.out _ (HW03.out.trans (HWW.out.mono HW03.out.size))).mono ?_; rintro e w4 ⟨D, cD, rfl, hin, hb4⟩; have HW4 := hideIt (HWW.out.trans (hb4.mono HWW.out.size)); have HIN := hideIt hin; clear hin hb4)
              refine hK _ _ (HHK.out _ _ HW4.out) ?_
              clear hK K
              refine wpAnyL_two (oi := ⟨some 45, _, _, _, _, _⟩) (oj := ⟨some 8, _, _, _, _, _⟩) 5 9 (by kernel_rfl) rfl rfl (fun K hK => ?_) (fun K hK => ?_)
              · go_wp2_with (go_at_call 42; refine (HRE2.out D cD _ HIN.out).mono ?_; rintro e w5 hres; obtain ⟨A3, c3, A2, c2, bs, bv, rfl, hj, hb5⟩ := hres.rj HP.out; have HW5 := hideIt (HW4.out.trans (hb5.mono HW4.out.size)); have HJ := hideIt hj; clear hres hj hb5)
                refine hK _ _ (HHK.out _ _ HW5.out) ?_
                clear hK K
                refine wpAnyL_move (oi := ⟨some 39, _, _, _, _, _⟩) 6 ?_ rfl (by kernel_rfl) (by kernel_rfl) (by kernel_rfl) (by kernel_rfl) (fun _ _ _ h => h) (by kernel_rfl) ?_ (HHK.out _ _ HW5.out) ?_
                rotate_left
                · intro W'; go_simp; first | done | with_reducible rfl
                try simp only [Act.put]
                try simp only [List.setIfInBounds_toArray]
                try simp only [List.set_cons_succ]
                try simp only [List.set_cons_zero]
                refine wpAnyL_move (oi := ⟨some 46, _, _, _, _, _⟩) 7 ?_ rfl (by kernel_rfl) (by kernel_rfl) (by kernel_rfl) (by kernel_rfl) (fun _ _ _ h => h) (by kernel_rfl) ?_ (HHK.out _ _ HW5.out) ?_
                rotate_left
                · intro W'; go_simp; first | done | with_reducible rfl
                try simp only [Act.put]
                try simp only [List.setIfInBounds_toArray]
                try simp only [List.set_cons_succ]
                try simp only [List.set_cons_zero]
                refine wpAnyL_move (oi := ⟨some 47, _, _, _, _, _⟩) 8 ?_ rfl (by kernel_rfl) (by kernel_rfl) (by kernel_rfl) (by kernel_rfl) (fun _ _ _ h => h) (by kernel_rfl) ?_ (HHK.out _ _ HW5.out) ?_
                rotate_left
                · intro W'; go_simp; first | done | with_reducible rfl
                try simp only [Act.put]
                try simp only [List.setIfInBounds_toArray]
                try simp only [List.set_cons_succ]
                try simp only [List.set_cons_zero]
                refine wpAnyL_one (o := ⟨some 8, _, _, _, _, _⟩) 9 (by kernel_rfl) rfl (fun K hK => ?_)
                go_wp2_with fail
                have HB8 := hideIt (Blk.new w5 24 (mtC 0 0 0 (.slice none 0 0)))
                have HW8 := hideIt (below_new w5 (.cells (mtC 0 0 0 (.slice none 0 0)).toArray 24))
                have HW9 := hideIt (HW5.out.trans (HW8.out.mono HW5.out.size))
                refine hK _ _ (HHK.out _ _ HW9.out) ?_
                clear hK K
                refine loads_tail 10 (by kernel_rfl) (by kernel_rfl) (by kernel_rfl) (by kernel_rfl) ?_
                simp only [List.drop_succ_cons, List.drop_zero]
                go_wp2_with ((with_reducible refine at_store ?_); refine wpList_stM rfl (.tmp 8) (.tmp 46) rfl w5.heap.size _ _ _ _ _ _ _ _ rfl rfl rfl HB8.out ?_; intro w10 HT8 HBX)
                go_meet
                exact ⟨w5.heap.size, A2, c2, rfl, rfl, SJ.mk' (HJ.out.1.below HW8.out HJ.out.1.lt) (fun h0 => by have := HJ.out.1.lt h0; omega) HJ.out.2.2.1 (HJ.out.2.2.2.1.below HW8.out HJ.out.2.2.2.1.lt) (fun h0 => by have := HJ.out.2.2.2.1.lt h0; omega) HW9.out HW5.out.size HT8.out HBX.out⟩
              · go_wp2_with fail
                have HB8 := hideIt (Blk.new w4 24 (mtC 0 0 0 (.slice none 0 0)))
                have HW8 := hideIt (below_new w4 (.cells (mtC 0 0 0 (.slice none 0 0)).toArray 24))
                have HW9 := hideIt (HW4.out.trans (HW8.out.mono HW4.out.size))
                have HIN2 := hideIt (HIN.out.keep HW8.out)
                refine hK _ _ (HHK.out _ _ HW9.out) ?_
                clear hK K
                refine wpAnyL_one (o := ⟨some 45, _, _, _, _, _⟩) 5 (by kernel_rfl) rfl (fun K hK => ?_)
                go_wp2_with (go_at_call 42; refine (HRE2.out D cD _ HIN2.out).mono ?_; rintro e w5 hres; obtain ⟨A3, c3, A2, c2, bs, bv, rfl, hj, hb5⟩ := hres.rj HP.out; have HW5 := hideIt (HW9.out.trans (hb5.mono HW9.out.size)); have HJ := hideIt hj; have HB9 := hideIt (HB8.out.kept hb5 HB8.out.lt); clear hres hj hb5)
                refine hK _ _ (HHK.out _ _ HW5.out) ?_
                clear hK K
                refine wpAnyL_move (oi := ⟨some 39, _, _, _, _, _⟩) 6 ?_ rfl (by kernel_rfl) (by kernel_rfl) (by kernel_rfl) (by kernel_rfl) (fun _ _ _ h => h) (by kernel_rfl) ?_ (HHK.out _ _ HW5.out) ?_
                rotate_left
                · intro W'; go_simp; first | done | with_reducible rfl
                try simp only [Act.put]
                try simp only [List.setIfInBounds_toArray]
                try simp only [List.set_cons_succ]
                try simp only [List.set_cons_zero]
                refine wpAnyL_move (oi := ⟨some 46, _, _, _, _, _⟩) 7 ?_ rfl (by kernel_rfl) (by kernel_rfl) (by kernel_rfl) (by kernel_rfl) (fun _ _ _ h => h) (by kernel_rfl) ?_ (HHK.out _ _ HW5.out) ?_
                rotate_left
                · intro W'; go_simp; first | done | with_reducible rfl
                try simp only [Act.put]
                try simp only [List.setIfInBounds_toArray]
                try simp only [List.set_cons_succ]
                try simp only [List.set_cons_zero]
                refine wpAnyL_move (oi := ⟨some 47, _, _, _, _, _⟩) 8 ?_ rfl (by kernel_rfl) (by kernel_rfl) (by kernel_rfl) (by kernel_rfl) (fun _ _ _ h => h) (by kernel_rfl) ?_ (HHK.out _ _ HW5.out) ?_
                rotate_left
                · intro W'; go_simp; first | done | with_reducible rfl
                try simp only [Act.put]
                try simp only [List.setIfInBounds_toArray]
                try simp only [List.set_cons_succ]
                try simp only [List.set_cons_zero]
                refine loads_tail 10 (by kernel_rfl) (by kernel_rfl) (by kernel_rfl) (by kernel_rfl) ?_
                simp only [List.drop_succ_cons, List.drop_zero]
                have HLT := hideIt HB8.out.lt
                go_wp2_with ((with_reducible refine at_store ?_); refine wpList_stM rfl (.tmp 8) (.tmp 46) rfl w4.heap.size _ _ _ _ _ _ _ _ rfl rfl rfl HB9.out ?_; intro w10 HT8 HBX)
                go_meet
                exact ⟨w4.heap.size, A2, c2, rfl, rfl, SJ.mk' HJ.out.1 (fun h0 => by have := HJ.out.2.1 h0; have := HLT.out; omega) HJ.out.2.2.1 HJ.out.2.2.2.1 (fun h0 => by have := HJ.out.2.2.2.2 h0; have := HLT.out; omega) HW5.out HW4.out.size HT8.out HBX.out⟩
            · go_wp2_with fail
              have HB8 := hideIt (Blk.new wd 24 (mtC 0 0 0 (.slice none 0 0)))
              have HW8 := hideIt (below_new wd (.cells (mtC 0 0 0 (.slice none 0 0)).toArray 24))
              have HW9 := hideIt (HWW.out.trans (HW8.out.mono HWW.out.size))
              refine hK _ _ (HHK.out _ _ HW9.out) ?_
              clear hK K
              refine wpAnyL_one (o := ⟨some 42, _, _, _, _, _⟩) 2 (by kernel_rfl) rfl (fun K hK => ?_)
              go_wp2_with (go_at_call 47; refine (HSD.out _ (HW03.out.trans (HW9.out.mono HW03.out.size))).mono ?_; rintro e w4 ⟨D, cD, rfl, hin, hb4⟩; have HW4 := hideIt (HW9.out.trans (hb4.mono HW9.out.size)); have HIN := hideIt hin; have HB9 := hideIt (HB8.out.kept hb4 HB8.out.lt); clear hin hb4)
              refine hK _ _ (HHK.out _ _ HW4.out) ?_
              clear hK K
              refine wpAnyL_one (o := ⟨some 45, _, _, _, _, _⟩) 5 (by kernel_rfl) rfl (fun K hK => ?_)
              go_wp2_with (go_at_call 42; refine (HRE2.out D cD _ HIN.out).mono ?_; rintro e w5 hres; obtain ⟨A3, c3, A2, c2, bs, bv, rfl, hj, hb5⟩ := hres.rj HP.out; have HW5 := hideIt (HW4.out.trans (hb5.mono HW4.out.size)); have HJ := hideIt hj; have HB10 := hideIt (HB9.out.kept hb5 HB9.out.lt); clear hres hj hb5)
              refine hK _ _ (HHK.out _ _ HW5.out) ?_
              clear hK K
              refine wpAnyL_move (oi := ⟨some 39, _, _, _, _, _⟩) 6 ?_ rfl (by kernel_rfl) (by kernel_rfl) (by kernel_rfl) (by kernel_rfl) (fun _ _ _ h => h) (by kernel_rfl) ?_ (HHK.out _ _ HW5.out) ?_
              rotate_left
              · intro W'; go_simp; first | done | with_reducible rfl
              try simp only [Act.put]
              try simp only [List.setIfInBounds_toArray]
              try simp only [List.set_cons_succ]
              try simp only [List.set_cons_zero]
              refine wpAnyL_move (oi := ⟨some 46, _, _, _, _, _⟩) 7 ?_ rfl (by kernel_rfl) (by kernel_rfl) (by kernel_rfl) (by kernel_rfl) (fun _ _ _ h => h) (by kernel_rfl) ?_ (HHK.out _ _ HW5.out) ?_
              rotate_left
              · intro W'; go_simp; first | done | with_reducible rfl
              try simp only [Act.put]
              try simp only [List.setIfInBounds_toArray]
              try simp only [List.set_cons_succ]
              try simp only [List.set_cons_zero]
              refine wpAnyL_move (oi := ⟨some 47, _, _, _, _, _⟩) 8 ?_ rfl (by kernel_rfl) (by kernel_rfl) (by kernel_rfl) (by kernel_rfl) (fun _ _ _ h => h) (by kernel_rfl) ?_ (HHK.out _ _ HW5.out) ?_
              rotate_left
              · intro W'; go_simp; first | done | with_reducible rfl
              try simp only [Act.put]
              try simp only [List.setIfInBounds_toArray]
              try simp only [List.set_cons_succ]
              try simp only [List.set_cons_zero]
              refine loads_tail 10 (by kernel_rfl) (by kernel_rfl) (by kernel_rfl) (by kernel_rfl) ?_
              simp only [List.drop_succ_cons, List.drop_zero]
              have HLT := hideIt HB9.out.lt
              go_wp2_with ((with_reducible refine at_store ?_); refine wpList_stM rfl (.tmp 8) (.tmp 46) rfl wd.heap.size _ _ _ _ _ _ _ _ rfl rfl rfl HB10.out ?_; intro w10 HT8 HBX)
              go_meet
              exact ⟨wd.heap.size, A2, c2, rfl, rfl, SJ.mk' HJ.out.1 (fun h0 => by have := HJ.out.2.1 h0; have := HLT.out; omega) HJ.out.2.2.1 HJ.out.2.2.2.1 (fun h0 => by have := HJ.out.2.2.2.2 h0; have := HLT.out; omega) HW5.out HWW.out.size HT8.out HBX.out⟩
          obtain ⟨p8, A2, c2, rfl, rfl, HSJ⟩ := hcut
          obtain ⟨A3, c3, bs, hbox, hIS, hc3⟩ := HSJ.out.box
          obtain ⟨bv, hIV⟩ := HSJ.out.piv
          have HIS := hideIt hIS
          have HIV := hideIt hIV
          have HBOX := hideIt hbox
          have hRN : R * n ≤ 32 * 64 := Nat.mul_le_mul hRl hnl
          have hCC2 : C * C2 ≤ 32 * 32 := Nat.mul_le_mul hCl hCl2
          have HW06 := hideIt (HW03.out.trans (HSJ.out.low.mono HW03.out.size))
          have HBA6 := hideIt (HBA3.out.kept HSJ.out.low HBA3.out.lt)
          have HBB6 := hideIt (HBB3.out.kept HSJ.out.low HBB3.out.lt)
          have HPR6 := hideIt (HPR3.out.kept HSJ.out.low HPR3.out.lt)
          have e0 := HBA6.out.cell 0
          have e2 := HBA6.out.cell 2
          have f2 := HBB6.out.cell 2
          clear hIS hIV hbox HBA3 HBB3 HPR3 HW03 HHK HRE2 HSD HSJ
          have HZS := hideIt (fun W => rzeros_any m C C2 (by omega) (by omega) W)
          go_wp2_with (go_at_call 38; refine (HZS.out _).mono ?_; rintro e w7 ⟨gp, rfl, hg, hc, hb7⟩; have HMK := hideIt (Mk.start (m := m) HW06.out HPR6.out (by omega) hb7 hg hc rfl); have HB7 := hideIt hb7; have HG := hideIt hg; clear hg hc hb7)
          obtain ⟨w6, hw6⟩ : ∃ w6, w6 = w7.alloc (.cells #[.int .i64 (m : Int), .int .i64 (C : Int), .int .i64 (C2 : Int), .slice (some ⟨gp, 0, none⟩) (C * C2) (C * C2)] 24) := ⟨_, rfl⟩
          obtain ⟨p6, hp6⟩ : ∃ p6, p6 = w7.heap.size := ⟨_, rfl⟩
          rw [← hw6, ← hp6]
          have HM0 : Hid (Mk w w6 (w.heap.size + 1 + 1) p6 gp m C C2 w6 (fun _ _ => 0)) := by rw [hw6, hp6]; exact HMK.out
          have hB6 : Below wc.heap.size wc w6 := by rw [hw6]; exact HB7.out.alloc HB7.out.size _
          have hg5 := HG.out
          have HARC := hideIt (show ArgM w6 p8 gp m R n A3 c3 bs 0 M from ⟨HBOX.out.kept hB6 HBOX.out.lt, by have := HBOX.out.lt; omega, HIS.out.below hB6 HIS.out.lt, fun h0 => by have := HIS.out.lt h0; omega, hc3⟩)
          have HAX := hideIt (HBA6.out.kept hB6 HBA6.out.lt)
          have HBX := hideIt (HBB6.out.kept hB6 HBB6.out.lt)
          have HV6 := hideIt (show Ints w6 A2 bv 0 p (fun k => pv.getD k 0) ∧ (0 < p → bv ≠ gp) from ⟨HIV.out.below hB6 HIV.out.lt, fun h0 => by have := HIV.out.lt h0; omega⟩)
          have HNE := hideIt (show w.heap.size ≠ gp ∧ w.heap.size + 1 ≠ gp from ⟨by have := HBA6.out.lt; omega, by have := HBB6.out.lt; omega⟩)
          clear hw6 hp6 HMK HB7 HG hB6 hg5 HBOX HIS HIV HBA6 HBB6 HPR6 HW06 HZS e0 e2 f2
          go_loopg [11] R (fun gk s11 wr => ∃ i : Nat, i + gk = R ∧ s11 = .int .i64 (i : Int) ∧ Aside (Mk w w6 (w.heap.size + 1 + 1) p6 gp m C C2 wr (solK pv M C (min i p)) ∧ ∀ x, p ≤ x → x < i → ∀ q, q < C2 → M x (C + q) = 0))
          case atStart => exact ⟨0, by omega, rfl, HM0.out.congr (fun i j _ _ => by rw [Nat.zero_min]; rfl), fun x _ hx => absurd hx (Nat.not_lt_zero _)⟩
          case round =>
            obtain ⟨i, hi, rfl, HI⟩ := hrel
            have c1 := (HARC.out.sel HI.out.1.sel).box.cell 1
            have HMI := hideIt HI.out.1
            have HZI := hideIt HI.out.2
            clear HI HM0
            by_cases hlt : i < R
            · have hinc := inc_c 3 i (by omega)
              have hiR : (i : Int) < (R : Int) := by omega
              obtain ⟨g1, rfl⟩ : ∃ x, x = gk := ⟨gk, rfl⟩
              go_wp2_with fail
              clear c1
              by_cases hip : i < p
              · have hipi : (i : Int) < (p : Int) := by omega
                have HMI2 := hideIt (show Mk w w6 (w.heap.size + 1 + 1) p6 gp m C C2 wr (solK pv M C i) by have h := HMI.out; rw [Nat.min_eq_left (by omega)] at h; exact h)
                clear HMI
                obtain ⟨y, hy⟩ : ∃ y, y = pv.getD i 0 := ⟨_, rfl⟩
                have hyC : y < C := by rw [hy]; exact HRD2.out.lt i (by rw [← HP.out]; exact hip)
                have HY := hideIt hy
                have hA2 := HV6.out.1.adr (by omega)
                subst hA2
                clear hy
                go_loopg [12] C2 (fun gk s12 wr => ∃ j : Nat, j + gk = C2 ∧ s12 = .int .i64 (j : Int) ∧ Aside (Mk w w6 (w.heap.size + 1 + 1) p6 gp m C C2 wr (mixK (solK pv M C i) (solK pv M C (i + 1)) y j)))
                case atStart => exact ⟨0, by omega, rfl, HMI2.out.congr (fun r q _ _ => (mixK_zero _ _ y r q).symm)⟩
                case round =>
                  obtain ⟨j, hj, rfl, HJ⟩ := hrel
                  have b2 := (HJ.out.sel.at_ HBX.out HNE.out.2).cell 2
                  by_cases hltj : j < C2
                  · have hincj := inc_c 3 j (by omega)
                    have hjC : (j : Int) < (C2 : Int) := by omega
                    have hjn : C + j < n := by have := HN.out; omega
                    have hCI := (HARC.out.sel HJ.out.sel).ints
                    have hl1 := ix_lt hlt hjn
                    have hl2 := ix_lt hyC hltj
                    have hA3 := hCI.adr (by omega)
                    have hc1 := hCI.cell (i * n + (C + j)) hl1
                    rw [gl_at M hjn, Nat.zero_add] at hc1
                    subst hA3
                    have c2 := (HARC.out.sel HJ.out.sel).box.cell 2
                    have c3 := (HARC.out.sel HJ.out.sel).box.cell 3
                    have a2 := (HJ.out.sel.at_ HAX.out HNE.out.1).cell 2
                    have x3 := HJ.out.box.cell 3
                    have hpc := (HV6.out.1.sel HJ.out.sel (fun q hq e => HV6.out.2 (by omega) e)).cell i hip
                    rw [Nat.zero_add, ← HY.out] at hpc
                    obtain ⟨hc2, hf2⟩ := HJ.out.cell hyC hltj
                    have hm1 := nmul 3 i n (by omega)
                    have hd1 := nadd 3 (i * n) C (by omega)
                    have hd2 := nadd 3 (i * n + C) j (by omega)
                    have hm3 := nmul 3 y C2 (by omega)
                    have hd3 := nadd 3 (y * C2) j (by omega)
                    have hli1 : ((i * n + C + j : Nat) : Int) < ((R * n : Nat) : Int) := by omega
                    have hli2 : ((y * C2 + j : Nat) : Int) < ((C * C2 : Nat) : Int) := by omega
                    rw [← Nat.add_assoc] at hc1
                    have HST := hideIt ((HJ.out.below (Below.refl _ wr).drew).store (x := M i (C + j)) hyC hltj)
                    have HNX := hideIt (mixK_next (solK pv M C i) (solK pv M C (i + 1)) y j (M i (C + j)) (by show _ = (if y = pv.getD i 0 then M i (C + j) else _); rw [if_pos HY.out]))
                    clear HJ hCI hl1 hl2 HMI2
                    generalize M i (C + j) = x at hc1 HST HNX
                    generalize mixK (solK pv M C i) (solK pv M C (i + 1)) y j y j = y0 at hc2
                    generalize i * n + C + j = y1 at *
                    generalize i * n + C = y2 at *
                    generalize i * n = y3 at *
                    generalize y * C2 + j = y4 at *
                    generalize y * C2 = y5 at *
                    generalize R * n = n1 at *
                    generalize C * C2 = n2 at *
                    go_wp2_with fail
                    refine still_tail 13 (by kernel_rfl) (by kernel_rfl) ?_
                    intro w9 hw9
                    have k0 : w9.cell? ⟨bv, i, none⟩ = some (.int .i64 (y : Int)) := by rw [hw9]; exact hpc
                    have k2 : w9.cell? ⟨w.heap.size + 1, 2, none⟩ = some (.int .i64 (C2 : Int)) := by rw [hw9]; exact b2
                    have l3 : w9.cell? ⟨p6, 3, none⟩ = some (.slice (some ⟨gp, 0, none⟩) n2 n2) := by rw [hw9]; exact x3
                    have l4 : w9.cell? ⟨gp, y4, none⟩ = some (.int .i64 (y0 : Int)) := by rw [hw9]; exact hc2
                    have l5 : w9.frozen? ⟨gp, y4, none⟩ = false := by rw [hw9]; exact hf2
                    rw [← hw9] at HST
                    clear hc1 a2 c2 c3 b2 x3 hpc hc2 hf2 hw9
                    simp only [List.take_succ_cons, List.take_zero, List.drop_succ_cons, List.drop_zero]
                    repeat still_step
                    refine wpStill_nil ?_
                    go_wp2_with fail
                    go_roundg (gk - 1)
                    case measure => omega
                    case rel => exact ⟨j + 1, by omega, by go_num, by have h := HST.out; rw [HNX.out] at h; exact h⟩
                  · have hjC : ¬ (j : Int) < (C2 : Int) := by omega
                    obtain rfl : j = C2 := by omega
                    have HMJ := hideIt (show Mk w w6 (w.heap.size + 1 + 1) p6 gp m C j wr (solK pv M C (min (i + 1) p)) from HJ.out.congr (fun r q hr hq => by
                      rw [Nat.min_eq_left (by omega)]
                      unfold mixK
                      by_cases e : r = y
                      · rw [if_pos ⟨e, hq⟩]
                      · rw [if_neg (fun h => e h.1)]
                        show _ = (if r = pv.getD i 0 then M i (C + q) else solK pv M C i r q)
                        rw [if_neg (by rw [← HY.out]; exact e)]))
                    clear HJ HMI2
                    go_wp2_with fail
                    go_roundg (g1 - 1)
                    case measure => omega
                    case rel => exact ⟨i + 1, by omega, by go_num, HMJ.out, fun x h1 h2 q hq => HZI.out x h1 (by omega) q hq⟩
              · have hipi : ¬ (i : Int) < (p : Int) := by omega
                have HMI2 := hideIt (show Mk w w6 (w.heap.size + 1 + 1) p6 gp m C C2 wr (solK pv M C p) by have h := HMI.out; rw [Nat.min_eq_right (by omega)] at h; exact h)
                clear HMI
                go_loopg [12] C2 (fun gk s12 wr => ∃ j : Nat, j + gk = C2 ∧ s12 = .int .i64 (j : Int) ∧ Aside (Mk w w6 (w.heap.size + 1 + 1) p6 gp m C C2 wr (solK pv M C p) ∧ ∀ q, q < j → M i (C + q) = 0))
                case atStart => exact ⟨0, by omega, rfl, HMI2.out, fun q hq => absurd hq (Nat.not_lt_zero _)⟩
                case round =>
                  obtain ⟨j, hj, rfl, HJ⟩ := hrel
                  have b2 := (HJ.out.1.sel.at_ HBX.out HNE.out.2).cell 2
                  by_cases hltj : j < C2
                  · have hincj := inc_c 3 j (by omega)
                    have hjC : (j : Int) < (C2 : Int) := by omega
                    have hjn : C + j < n := by have := HN.out; omega
                    have hCI := (HARC.out.sel HJ.out.1.sel).ints
                    have hl1 := ix_lt hlt hjn
                    have hA3 := hCI.adr (by omega)
                    have hc1 := hCI.cell (i * n + (C + j)) hl1
                    rw [gl_at M hjn, Nat.zero_add] at hc1
                    subst hA3
                    have c2 := (HARC.out.sel HJ.out.1.sel).box.cell 2
                    have c3 := (HARC.out.sel HJ.out.1.sel).box.cell 3
                    have a2 := (HJ.out.1.sel.at_ HAX.out HNE.out.1).cell 2
                    have hm1 := nmul 3 i n (by omega)
                    have hd1 := nadd 3 (i * n) C (by omega)
                    have hd2 := nadd 3 (i * n + C) j (by omega)
                    have hli1 : ((i * n + C + j : Nat) : Int) < ((R * n : Nat) : Int) := by omega
                    rw [← Nat.add_assoc] at hc1
                    have HMJ := hideIt HJ.out.1
                    have HZJ := hideIt HJ.out.2
                    clear HJ hCI hl1 HMI2
                    by_cases hz : M i (C + j) = 0
                    · have hzq := int_neqF6 3 (a := ((M i (C + j) : Nat) : Int)) (b := 0) (by omega)
                      have HZ0 := hideIt hz
                      clear hz
                      generalize M i (C + j) = x at hc1 hzq
                      generalize i * n + C + j = y1 at *
                      generalize i * n + C = y2 at *
                      generalize i * n = y3 at *
                      generalize R * n = n1 at *
                      go_wp2_with fail
                      go_roundg (gk - 1)
                      case measure => omega
                      case rel =>
                        refine ⟨j + 1, by omega, by go_num, HMJ.out, fun q hq => ?_⟩
                        by_cases e : q = j
                        · rw [e]; exact HZ0.out
                        · exact HZJ.out q (by omega)
                    · have hzq := int_neqT6 3 (a := ((M i (C + j) : Nat) : Int)) (b := 0) (by omega)
                      have HR4 : Hid (r = (zeroM, 12)) := hideIt (by rw [HR3.out]; exact if_pos ⟨i, by show pv.length ≤ i; rw [← HP.out]; omega, hlt, C + j, by omega, hz⟩)
                      clear hz HR3
                      generalize M i (C + j) = x at hc1 hzq
                      generalize i * n + C + j = y1 at *
                      generalize i * n + C = y2 at *
                      generalize i * n = y3 at *
                      generalize R * n = n1 at *
                      go_wp2_with ((with_reducible refine at_store ?_); refine wpList_stM rfl (.tmp 4) (.tmp 99) rfl (w.heap.size + 1 + 1) 0 0 0 0 0 0 (.slice none 0 0) (.slice none 0 0) rfl rfl rfl HMJ.out.res ?_; intro w8 HT8 HB8)
                      refine bodyPost_ret (results_two rfl _ _ (w.heap.size + 1 + 1) _ _ _ rfl HB8.out Tryd.underlying24 rfl isz4) rfl ?_
                      rw [HR4.out]
                      exact MRes.bad (HT8.out.below HMJ.out.low HMJ.out.prl) 12
                  · have hjC : ¬ (j : Int) < (C2 : Int) := by omega
                    obtain rfl : j = C2 := by omega
                    have HMJ := hideIt (show Mk w w6 (w.heap.size + 1 + 1) p6 gp m C j wr (solK pv M C (min (i + 1) p)) by have h := HJ.out.1; rw [Nat.min_eq_right (by omega)]; exact h)
                    have HZJ := hideIt HJ.out.2
                    clear HJ HMI2
                    go_wp2_with fail
                    go_roundg (g1 - 1)
                    case measure => omega
                    case rel =>
                      refine ⟨i + 1, by omega, by go_num, HMJ.out, fun x h1 h2 q hq => ?_⟩
                      by_cases e : x = i
                      · rw [e]; exact HZJ.out q hq
                      · exact HZI.out x h1 (by omega) q hq
            · have hiR : ¬ (i : Int) < (R : Int) := by omega
              obtain rfl : i = R := by omega
              have HMK := hideIt (show Mk w w6 (w.heap.size + 1 + 1) p6 gp m C C2 wr (solK pv M C p) by have h := HMI.out; rw [Nat.min_eq_right hpR] at h; exact h)
              have HR4 : Hid (r = (mkM m C C2 (solK pv M C p), 0)) := hideIt (by
                rw [HR3.out, HP.out]
                refine if_neg (fun ⟨x, h1, h2, y, h3, h4⟩ => h4 ?_)
                have h1 : pv.length ≤ x := h1
                by_cases e : y < C
                · exact HRD2.out.zero x h1 h2 y e
                · have h5 := HZI.out x (by have := HP.out; omega) h2 (y - C) (by omega)
                  rw [show C + (y - C) = y by omega] at h5
                  exact h5)
              clear HMI HZI HR3
              go_wp2_with (first
                | ((with_reducible refine at_load ?_); refine wpList_ldM rfl (.tmp 10) rfl p6 _ _ _ _ rfl HMK.out.box ?_)
                | ((with_reducible refine at_store ?_); refine wpList_stM rfl (.tmp 4) (.tmp 100) rfl (w.heap.size + 1 + 1) _ _ _ _ _ _ _ _ rfl rfl rfl HMK.out.res ?_; intro w8 HT8 HB8))
              refine bodyPost_ret (results_two rfl _ _ (w.heap.size + 1 + 1) _ _ _ rfl HB8.out Tryd.underlying24 rfl isz4) rfl ?_
              rw [HR4.out]
              exact HMK.out.fin (by omega) (by omega) HT8.out

        · rw [hva] at HVA
          rw [hvb] at HVB
          have HR2 : Hid (r = (zeroM, 1)) := hideIt (by rw [HR.out]; unfold solveM; rw [if_neg (fun h => hC h.2.2.2)])
          have hq1 := int_neqF6 3 hF
          have hq2 := int_neqT6 3 hC
          clear hva hvb hF hC hsa hsb HR
          generalize a.l.length = na at *
          generalize b.l.length = nb at *
          generalize a.F = Fa at *
          generalize a.R = Ra at *
          generalize a.C = Ca at *
          generalize b.F = Fb at *
          generalize b.R = Rb at *
          generalize b.C = Cb at *
          obtain ⟨w1, hw1⟩ : ∃ w1, w1 = ((w.alloc (.cells #[.int .i64 Fa, .int .i64 Ra, .int .i64 Ca, .slice A na ca] 24)).alloc (.cells #[.int .i64 Fb, .int .i64 Rb, .int .i64 Cb, .slice B nb cb] 24)).alloc (.cells #[.int .i64 0, .int .i64 0, .int .i64 0, .slice none 0 0] 24) := ⟨_, rfl⟩
          have hw01 : Below w.heap.size w w1 := by rw [hw1]; exact (((Below.refl _ w).alloc (Nat.le_refl _) _).alloc (by simp) _).alloc (by simp; omega) _
          have hba : Blk w1 w.heap.size 24 (mtC Fa Ra Ca (.slice A na ca)) := by rw [hw1]; exact ((Blk.new w _ _).alloc _).alloc _
          have hbb : Blk w1 (w.heap.size + 1) 24 (mtC Fb Rb Cb (.slice B nb cb)) := by rw [hw1]; exact (Blk.new2 w _ _ _).alloc _
          have hpr : Blk w1 (w.heap.size + 1 + 1) 24 (mtC 0 0 0 (.slice none 0 0)) := by
            rw [hw1]
            have h := Blk.new ((w.alloc (.cells #[.int .i64 Fa, .int .i64 Ra, .int .i64 Ca, .slice A na ca] 24)).alloc (.cells #[.int .i64 Fb, .int .i64 Rb, .int .i64 Cb, .slice B nb cb] 24)) 24 (mtC 0 0 0 (.slice none 0 0))
            rw [World.size_alloc, World.size_alloc] at h
            exact h
          have HW1 := hideIt hw1
          have HW01 := hideIt hw01
          have HBA := hideIt hba
          have HBB := hideIt hbb
          have HPR := hideIt hpr
          have a0 := hba.cell 0
          have a1 := hba.cell 1
          have a2 := hba.cell 2
          have a3 := hba.cell 3
          clear hw1 hw01 hba hbb hpr
          go_enter Tryd.func33, Tryd.ntmps33
          go_wp2_with fail
          rw [← HW1.out]
          refine (HVA.out w1 HW01.out).mono ?_
          rintro e w2 ⟨rfl, hb2⟩
          have HBA2 := hideIt (HBA.out.kept hb2 HBA.out.lt)
          have HBB2 := hideIt (HBB.out.kept hb2 HBB.out.lt)
          have HPR2 := hideIt (HPR.out.kept hb2 HPR.out.lt)
          have HW02 := hideIt (HW01.out.trans (hb2.mono HW01.out.size))
          clear hb2 HW1 HW01 HBA HBB HPR HVA a0 a1 a2 a3
          have b0 := HBB2.out.cell 0
          have b1 := HBB2.out.cell 1
          have b2 := HBB2.out.cell 2
          have b3 := HBB2.out.cell 3
          go_wp2_with fail
          refine (HVB.out w2 HW02.out).mono ?_
          rintro e w3 ⟨rfl, hb3⟩
          have HBA3 := hideIt (HBA2.out.kept hb3 HBA2.out.lt)
          have HBB3 := hideIt (HBB2.out.kept hb3 HBB2.out.lt)
          have HPR3 := hideIt (HPR2.out.kept hb3 HPR2.out.lt)
          have HW03 := hideIt (HW02.out.trans (hb3.mono HW02.out.size))
          clear b0 b1 b2 b3 hb3 HW02 HBA2 HBB2 HPR2 HVB
          have a0 := HBA3.out.cell 0
          have a1 := HBA3.out.cell 1
          have a2 := HBA3.out.cell 2
          have b0 := HBB3.out.cell 0
          have b1 := HBB3.out.cell 1
          have b2 := HBB3.out.cell 2
          go_wp2_with ((with_reducible refine at_store ?_); refine wpList_stM rfl (.tmp 4) (.tmp 38) rfl (w.heap.size + 1 + 1) 0 0 0 0 0 0 (.slice none 0 0) (.slice none 0 0) rfl rfl rfl HPR3.out ?_; intro w8 HT8 HB8)
          refine bodyPost_ret (results_two rfl _ _ (w.heap.size + 1 + 1) _ _ _ rfl HB8.out Tryd.underlying24 rfl isz4) rfl ?_
          rw [HR2.out]
          exact MRes.bad (HT8.out.below HW03.out (by omega)) 1
      · rw [hva] at HVA
        rw [hvb] at HVB
        have HR2 : Hid (r = (zeroM, 1)) := hideIt (by rw [HR.out]; unfold solveM; rw [if_neg (fun h => hF h.2.2.1)])
        have hq1 := int_neqT6 3 hF
        clear hva hvb hF hsa hsb HR
        generalize a.l.length = na at *
        generalize b.l.length = nb at *
        generalize a.F = Fa at *
        generalize a.R = Ra at *
        generalize a.C = Ca at *
        generalize b.F = Fb at *
        generalize b.R = Rb at *
        generalize b.C = Cb at *
        obtain ⟨w1, hw1⟩ : ∃ w1, w1 = ((w.alloc (.cells #[.int .i64 Fa, .int .i64 Ra, .int .i64 Ca, .slice A na ca] 24)).alloc (.cells #[.int .i64 Fb, .int .i64 Rb, .int .i64 Cb, .slice B nb cb] 24)).alloc (.cells #[.int .i64 0, .int .i64 0, .int .i64 0, .slice none 0 0] 24) := ⟨_, rfl⟩
        have hw01 : Below w.heap.size w w1 := by rw [hw1]; exact (((Below.refl _ w).alloc (Nat.le_refl _) _).alloc (by simp) _).alloc (by simp; omega) _
        have hba : Blk w1 w.heap.size 24 (mtC Fa Ra Ca (.slice A na ca)) := by rw [hw1]; exact ((Blk.new w _ _).alloc _).alloc _
        have hbb : Blk w1 (w.heap.size + 1) 24 (mtC Fb Rb Cb (.slice B nb cb)) := by rw [hw1]; exact (Blk.new2 w _ _ _).alloc _
        have hpr : Blk w1 (w.heap.size + 1 + 1) 24 (mtC 0 0 0 (.slice none 0 0)) := by
          rw [hw1]
          have h := Blk.new ((w.alloc (.cells #[.int .i64 Fa, .int .i64 Ra, .int .i64 Ca, .slice A na ca] 24)).alloc (.cells #[.int .i64 Fb, .int .i64 Rb, .int .i64 Cb, .slice B nb cb] 24)) 24 (mtC 0 0 0 (.slice none 0 0))
          rw [World.size_alloc, World.size_alloc] at h
          exact h
        have HW1 := hideIt hw1
        have HW01 := hideIt hw01
        have HBA := hideIt hba
        have HBB := hideIt hbb
        have HPR := hideIt hpr
        have a0 := hba.cell 0
        have a1 := hba.cell 1
        have a2 := hba.cell 2
        have a3 := hba.cell 3
        clear hw1 hw01 hba hbb hpr
        go_enter Tryd.func33, Tryd.ntmps33
        go_wp2_with fail
        rw [← HW1.out]
        refine (HVA.out w1 HW01.out).mono ?_
        rintro e w2 ⟨rfl, hb2⟩
        have HBA2 := hideIt (HBA.out.kept hb2 HBA.out.lt)
        have HBB2 := hideIt (HBB.out.kept hb2 HBB.out.lt)
        have HPR2 := hideIt (HPR.out.kept hb2 HPR.out.lt)
        have HW02 := hideIt (HW01.out.trans (hb2.mono HW01.out.size))
        clear hb2 HW1 HW01 HBA HBB HPR HVA a0 a1 a2 a3
        have b0 := HBB2.out.cell 0
        have b1 := HBB2.out.cell 1
        have b2 := HBB2.out.cell 2
        have b3 := HBB2.out.cell 3
        go_wp2_with fail
        refine (HVB.out w2 HW02.out).mono ?_
        rintro e w3 ⟨rfl, hb3⟩
        have HBA3 := hideIt (HBA2.out.kept hb3 HBA2.out.lt)
        have HBB3 := hideIt (HBB2.out.kept hb3 HBB2.out.lt)
        have HPR3 := hideIt (HPR2.out.kept hb3 HPR2.out.lt)
        have HW03 := hideIt (HW02.out.trans (hb3.mono HW02.out.size))
        clear b0 b1 b2 b3 hb3 HW02 HBA2 HBB2 HPR2 HVB
        have a0 := HBA3.out.cell 0
        have a1 := HBA3.out.cell 1
        have a2 := HBA3.out.cell 2
        have b0 := HBB3.out.cell 0
        have b1 := HBB3.out.cell 1
        have b2 := HBB3.out.cell 2
        go_wp2_with ((with_reducible refine at_store ?_); refine wpList_stM rfl (.tmp 4) (.tmp 38) rfl (w.heap.size + 1 + 1) 0 0 0 0 0 0 (.slice none 0 0) (.slice none 0 0) rfl rfl rfl HPR3.out ?_; intro w8 HT8 HB8)
        refine bodyPost_ret (results_two rfl _ _ (w.heap.size + 1 + 1) _ _ _ rfl HB8.out Tryd.underlying24 rfl isz4) rfl ?_
        rw [HR2.out]
        exact MRes.bad (HT8.out.below HW03.out (by omega)) 1
    · rw [hva] at HVA
      rw [Bool.eq_false_iff.2 hvb] at HVB
      have HR2 : Hid (r = (zeroM, 1)) := hideIt (by rw [HR.out]; unfold solveM; rw [if_neg (fun h => hvb h.2.1)])
      clear hva hvb hsa hsb HR
      generalize a.l.length = na at *
      generalize b.l.length = nb at *
      generalize a.F = Fa at *
      generalize a.R = Ra at *
      generalize a.C = Ca at *
      generalize b.F = Fb at *
      generalize b.R = Rb at *
      generalize b.C = Cb at *
      obtain ⟨w1, hw1⟩ : ∃ w1, w1 = ((w.alloc (.cells #[.int .i64 Fa, .int .i64 Ra, .int .i64 Ca, .slice A na ca] 24)).alloc (.cells #[.int .i64 Fb, .int .i64 Rb, .int .i64 Cb, .slice B nb cb] 24)).alloc (.cells #[.int .i64 0, .int .i64 0, .int .i64 0, .slice none 0 0] 24) := ⟨_, rfl⟩
      have hw01 : Below w.heap.size w w1 := by rw [hw1]; exact (((Below.refl _ w).alloc (Nat.le_refl _) _).alloc (by simp) _).alloc (by simp; omega) _
      have hba : Blk w1 w.heap.size 24 (mtC Fa Ra Ca (.slice A na ca)) := by rw [hw1]; exact ((Blk.new w _ _).alloc _).alloc _
      have hbb : Blk w1 (w.heap.size + 1) 24 (mtC Fb Rb Cb (.slice B nb cb)) := by rw [hw1]; exact (Blk.new2 w _ _ _).alloc _
      have hpr : Blk w1 (w.heap.size + 1 + 1) 24 (mtC 0 0 0 (.slice none 0 0)) := by
        rw [hw1]
        have h := Blk.new ((w.alloc (.cells #[.int .i64 Fa, .int .i64 Ra, .int .i64 Ca, .slice A na ca] 24)).alloc (.cells #[.int .i64 Fb, .int .i64 Rb, .int .i64 Cb, .slice B nb cb] 24)) 24 (mtC 0 0 0 (.slice none 0 0))
        rw [World.size_alloc, World.size_alloc] at h
        exact h
      have HW1 := hideIt hw1
      have HW01 := hideIt hw01
      have HBA := hideIt hba
      have HBB := hideIt hbb
      have HPR := hideIt hpr
      have a0 := hba.cell 0
      have a1 := hba.cell 1
      have a2 := hba.cell 2
      have a3 := hba.cell 3
      clear hw1 hw01 hba hbb hpr
      go_enter Tryd.func33, Tryd.ntmps33
      go_wp2_with fail
      rw [← HW1.out]
      refine (HVA.out w1 HW01.out).mono ?_
      rintro e w2 ⟨rfl, hb2⟩
      have HBA2 := hideIt (HBA.out.kept hb2 HBA.out.lt)
      have HBB2 := hideIt (HBB.out.kept hb2 HBB.out.lt)
      have HPR2 := hideIt (HPR.out.kept hb2 HPR.out.lt)
      have HW02 := hideIt (HW01.out.trans (hb2.mono HW01.out.size))
      clear hb2 HW1 HW01 HBA HBB HPR HVA a0 a1 a2 a3
      have b0 := HBB2.out.cell 0
      have b1 := HBB2.out.cell 1
      have b2 := HBB2.out.cell 2
      have b3 := HBB2.out.cell 3
      go_wp2_with fail
      refine (HVB.out w2 HW02.out).mono ?_
      rintro e w3 ⟨rfl, hb3⟩
      have HBA3 := hideIt (HBA2.out.kept hb3 HBA2.out.lt)
      have HBB3 := hideIt (HBB2.out.kept hb3 HBB2.out.lt)
      have HPR3 := hideIt (HPR2.out.kept hb3 HPR2.out.lt)
      have HW03 := hideIt (HW02.out.trans (hb3.mono HW02.out.size))
      clear b0 b1 b2 b3 hb3 HW02 HBA2 HBB2 HPR2 HVB
      have a0 := HBA3.out.cell 0
      have a1 := HBA3.out.cell 1
      have a2 := HBA3.out.cell 2
      have b0 := HBB3.out.cell 0
      have b1 := HBB3.out.cell 1
      have b2 := HBB3.out.cell 2
      go_wp2_with ((with_reducible refine at_store ?_); refine wpList_stM rfl (.tmp 4) (.tmp 38) rfl (w.heap.size + 1 + 1) 0 0 0 0 0 0 (.slice none 0 0) (.slice none 0 0) rfl rfl rfl HPR3.out ?_; intro w8 HT8 HB8)
      refine bodyPost_ret (results_two rfl _ _ (w.heap.size + 1 + 1) _ _ _ rfl HB8.out Tryd.underlying24 rfl isz4) rfl ?_
      rw [HR2.out]
      exact MRes.bad (HT8.out.below HW03.out (by omega)) 1
  · rw [Bool.eq_false_iff.2 hva] at HVA
    have HR2 : Hid (r = (zeroM, 1)) := hideIt (by rw [HR.out]; unfold solveM; rw [if_neg (fun h => hva h.1)])
    clear hva hsa hsb HR
    generalize vM b = vb at *
    generalize a.l.length = na at *
    generalize b.l.length = nb at *
    generalize a.F = Fa at *
    generalize a.R = Ra at *
    generalize a.C = Ca at *
    generalize b.F = Fb at *
    generalize b.R = Rb at *
    generalize b.C = Cb at *
    obtain ⟨w1, hw1⟩ : ∃ w1, w1 = ((w.alloc (.cells #[.int .i64 Fa, .int .i64 Ra, .int .i64 Ca, .slice A na ca] 24)).alloc (.cells #[.int .i64 Fb, .int .i64 Rb, .int .i64 Cb, .slice B nb cb] 24)).alloc (.cells #[.int .i64 0, .int .i64 0, .int .i64 0, .slice none 0 0] 24) := ⟨_, rfl⟩
    have hw01 : Below w.heap.size w w1 := by rw [hw1]; exact (((Below.refl _ w).alloc (Nat.le_refl _) _).alloc (by simp) _).alloc (by simp; omega) _
    have hba : Blk w1 w.heap.size 24 (mtC Fa Ra Ca (.slice A na ca)) := by rw [hw1]; exact ((Blk.new w _ _).alloc _).alloc _
    have hbb : Blk w1 (w.heap.size + 1) 24 (mtC Fb Rb Cb (.slice B nb cb)) := by rw [hw1]; exact (Blk.new2 w _ _ _).alloc _
    have hpr : Blk w1 (w.heap.size + 1 + 1) 24 (mtC 0 0 0 (.slice none 0 0)) := by
      rw [hw1]
      have h := Blk.new ((w.alloc (.cells #[.int .i64 Fa, .int .i64 Ra, .int .i64 Ca, .slice A na ca] 24)).alloc (.cells #[.int .i64 Fb, .int .i64 Rb, .int .i64 Cb, .slice B nb cb] 24)) 24 (mtC 0 0 0 (.slice none 0 0))
      rw [World.size_alloc, World.size_alloc] at h
      exact h
    have HW1 := hideIt hw1
    have HW01 := hideIt hw01
    have HBA := hideIt hba
    have HBB := hideIt hbb
    have HPR := hideIt hpr
    have a0 := hba.cell 0
    have a1 := hba.cell 1
    have a2 := hba.cell 2
    have a3 := hba.cell 3
    clear hw1 hw01 hba hbb hpr
    go_enter Tryd.func33, Tryd.ntmps33
    go_wp2_with fail
    rw [← HW1.out]
    refine (HVA.out w1 HW01.out).mono ?_
    rintro e w2 ⟨rfl, hb2⟩
    have HBA2 := hideIt (HBA.out.kept hb2 HBA.out.lt)
    have HBB2 := hideIt (HBB.out.kept hb2 HBB.out.lt)
    have HPR2 := hideIt (HPR.out.kept hb2 HPR.out.lt)
    have HW02 := hideIt (HW01.out.trans (hb2.mono HW01.out.size))
    clear hb2 HW1 HW01 HBA HBB HPR HVA a0 a1 a2 a3
    have b0 := HBB2.out.cell 0
    have b1 := HBB2.out.cell 1
    have b2 := HBB2.out.cell 2
    have b3 := HBB2.out.cell 3
    go_wp2_with fail
    refine (HVB.out w2 HW02.out).mono ?_
    rintro e w3 ⟨rfl, hb3⟩
    have HBA3 := hideIt (HBA2.out.kept hb3 HBA2.out.lt)
    have HBB3 := hideIt (HBB2.out.kept hb3 HBB2.out.lt)
    have HPR3 := hideIt (HPR2.out.kept hb3 HPR2.out.lt)
    have HW03 := hideIt (HW02.out.trans (hb3.mono HW02.out.size))
    clear b0 b1 b2 b3 hb3 HW02 HBA2 HBB2 HPR2 HVB
    have a0 := HBA3.out.cell 0
    have a1 := HBA3.out.cell 1
    have a2 := HBA3.out.cell 2
    have b0 := HBB3.out.cell 0
    have b1 := HBB3.out.cell 1
    have b2 := HBB3.out.cell 2
    go_wp2_with ((with_reducible refine at_store ?_); refine wpList_stM rfl (.tmp 4) (.tmp 38) rfl (w.heap.size + 1 + 1) 0 0 0 0 0 0 (.slice none 0 0) (.slice none 0 0) rfl rfl rfl HPR3.out ?_; intro w8 HT8 HB8)
    refine bodyPost_ret (results_two rfl _ _ (w.heap.size + 1 + 1) _ _ _ rfl HB8.out Tryd.underlying24 rfl isz4) rfl ?_
    rw [HR2.out]
    exact MRes.bad (HT8.out.below HW03.out (by omega)) 1

end Go.Proofs.YtodmcojcmihooaaDoor
