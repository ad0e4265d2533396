/-
  The reference's Inverse, walked.
-/
import Derived.Test.YtodmcojcmihooaaDoorRefSo
import Derived.Test.YtodmcojcmihooaaDoorMatV2
namespace Go.Proofs.YtodmcojcmihooaaDoor
open Go.RowKit
set_option linter.unusedVariables false

theorem idM_is {m n : Nat} (hm : Fm m) (hn : n ≤ 32) : idM (m : Int) (n : Int) = (mkM m n n idm, 0) := by
  unfold idM
  rw [if_pos ⟨vd_true (a := 0) hm (Nat.two_pow_pos m), isz_nat hn⟩, Int.toNat_natCast, Int.toNat_natCast]
theorem vM_id {m n : Nat} (hm : Fm m) (hn : n ≤ 32) : vM (mkM m n n idm) = true := vM_mk hm hn hn (fun i j _ _ => idm_v hm i j)
theorem vM_ev {a : Mt} {m : Nat} (h : vM a = true) (hF : a.F = (m : Int)) : Vm m a.e := by
  obtain ⟨m2, R, C, h1, h2, h3, h4, h5⟩ := vM_is h
  have e : a.F = (m2 : Int) := by rw [h5]; rfl
  obtain rfl : m = m2 := by omega
  exact h4
theorem solveM_id {m n : Nat} (hm : Fm m) (hn : n ≤ 32) {E : Mx} (hE : Vm m E) (hv : vM (mkM m n n E) = true) : solveM (mkM m n n E) (mkM m n n idm) = solF m n n n (red m n (sideM n (mkM m n n E).e (mkM m n n idm).e) n) := by
  unfold solveM
  rw [if_pos ⟨hv, vM_id hm hn, rfl, rfl⟩]
  show solF ((m : Int)).toNat ((n : Int)).toNat ((n : Int)).toNat ((n : Int)).toNat (red ((m : Int)).toNat ((n : Int)).toNat (sideM ((n : Int)).toNat _ _) ((n : Int)).toNat) = _
  rw [Int.toNat_natCast, Int.toNat_natCast]
theorem solve_id {a : Mt} (hv : vM a = true) (hRC : a.R = a.C) : (rankM a < a.R → (solveM a (idM a.F a.R).1).2 ≠ 0) ∧ (¬ rankM a < a.R → (solveM a (idM a.F a.R).1).2 = 0) := by
  obtain ⟨m, n, n2, hm, hn, hn2, hE, ha⟩ := vM_is hv
  have hvv := hv
  generalize a.e = E at ha hE
  subst ha
  obtain rfl : n = n2 := Int.ofNat.inj hRC
  have hI := vM_ev (m := m) (vM_id hm hn) rfl
  have hE2 := vM_ev (m := m) hv rfl
  have hid : idM (mkM m n n E).F (mkM m n n E).R = (mkM m n n idm, 0) := idM_is hm hn
  rw [hid, rankM_mk hm hE hv]
  show (((rk m n n E : Nat) : Int) < (n : Int) → (solveM (mkM m n n E) (mkM m n n idm)).2 ≠ 0) ∧ (¬ ((rk m n n E : Nat) : Int) < (n : Int) → (solveM (mkM m n n E) (mkM m n n idm)).2 = 0)
  rw [solveM_id hm hn hE hv]
  have hk : rk m n n (mkM m n n E).e = rk m n n E := by
    unfold rk
    rw [(red_congr (m := m) (R := n) (C := n) (fun i j hi hj => mkM_e hi hj) n (Nat.le_refl _)).1]
  have hq := inv_iff hm n hE2 hI (fun i j hi hj => mkM_e hi hj)
  rw [hk] at hq
  constructor
  · intro h
    unfold solF
    rw [if_pos (hq.2 (by omega))]
    decide
  · intro h
    unfold solF
    rw [if_neg (fun q => by have := hq.1 q; omega)]

set_option maxHeartbeats 2000000 in
set_option maxRecDepth 100000 in
theorem rinver_any (a : Mt) (A : Option Addr) (c : Nat) (w : World) (hs : MIn w a A c) :
    Calls Tryd.prog 19 #[mtV a.F a.R a.C (.slice A a.l.length c)] w (MRes w (invM a)) := by
  have HV := hideIt (rvalid_b hs)
  have HRK := hideIt (fun W (hW : Below w.heap.size w W) => rrank_any a A c W (hs.keep hW))
  have HID := hideIt (fun W => rident_any a.F a.R W)
  have HSO := hideIt (fun (b : Mt) B cb W (hW : Below w.heap.size w W) (hb : MIn W b B cb) => rsolve_any a b A B c cb W (hs.keep hW) hb)
  obtain ⟨r, hr⟩ : ∃ r, r = invM a := ⟨_, rfl⟩
  rw [← hr]
  have HR := hideIt hr
  clear hr
  obtain ⟨w1, hw1⟩ : ∃ w1, w1 = (w.alloc (.cells #[.int .i64 a.F, .int .i64 a.R, .int .i64 a.C, .slice A a.l.length c] 24)).alloc (.cells #[.int .i64 0, .int .i64 0, .int .i64 0, .slice none 0 0] 24) := ⟨_, rfl⟩
  have hw01 : Below w.heap.size w w1 := by rw [hw1]; exact ((Below.refl _ w).alloc (Nat.le_refl _) _).alloc (by simp) _
  have hba : Blk w1 w.heap.size 24 (mtC a.F a.R a.C (.slice A a.l.length c)) := by rw [hw1]; exact (Blk.new w _ _).alloc _
  have hpr : Blk w1 (w.heap.size + 1) 24 (mtC 0 0 0 (.slice none 0 0)) := by rw [hw1]; exact Blk.new2 w _ _ _
  have HW1 := hideIt hw1
  have HW01 := hideIt hw01
  have HBA := hideIt hba
  have HPR := hideIt hpr
  clear hw1 hw01 hba hpr
  by_cases hv : vM a = true
  · rw [hv] at HV
    by_cases hRC : a.R = a.C
    · have HR2 : Hid (r = if (solveM a (idM a.F a.R).1).2 = 0 then ((solveM a (idM a.F a.R).1).1, 0) else (zeroM, 10)) := hideIt (by rw [HR.out]; exact if_pos ⟨hv, hRC⟩)
      have HSI0 := hideIt (solve_id hv hRC)
      have hid : (idM a.F a.R).2 = 0 := by
        obtain ⟨m, n, n2, hm, hnl, _, _, ha⟩ := vM_is hv
        have e1 : a.F = (m : Int) := by rw [ha]; rfl
        have e2 : a.R = (n : Int) := by rw [ha]; rfl
        rw [e1, e2, idM_is hm hnl]
      have HIDE := hideIt hid
      have hq := int_neqF6 3 hRC
      have HSI := hideIt (HSO.out (idM a.F a.R).1)
      generalize hr2 : solveM a (idM a.F a.R).1 = r2 at HR2 HSI0 HSI
      generalize idM a.F a.R = I at HSI HID HIDE
      obtain ⟨I, ie⟩ := I
      have hie : ie = 0 := HIDE.out
      subst hie
      generalize hz : rankM a = z at HRK HSI0
      clear hr2 hz hid HIDE
      clear hv hRC hs HR HSO
      generalize a.l.length = la at *
      generalize a.F = F at *
      generalize a.R = R at *
      generalize a.C = C at *
      have a0 := HBA.out.cell 0
      have a1 := HBA.out.cell 1
      have a2 := HBA.out.cell 2
      have a3 := HBA.out.cell 3
      go_enter Tryd.func19, Tryd.ntmps19
      go_wp2_with fail
      rw [← HW1.out]
      refine (HV.out w1 HW01.out).mono ?_
      rintro e w2 ⟨rfl, hb2⟩
      have HBA2 := hideIt (HBA.out.kept hb2 HBA.out.lt)
      have HPR2 := hideIt (HPR.out.kept hb2 HPR.out.lt)
      have HW02 := hideIt (HW01.out.trans (hb2.mono HW01.out.size))
      have f0 := HBA2.out.cell 0
      have f1 := HBA2.out.cell 1
      have f2 := HBA2.out.cell 2
      clear hb2 HW1 HW01 HBA HPR HV a0 a1 a2 a3
      have HHK : Hid (∀ W' bt, Below w2.heap.size w2 W' → Hooks [(1, fun W => Blk W w.heap.size 24 (mtC F R C (.slice A la c))), (4, fun W => W.cell? ⟨w.heap.size, 1, none⟩ = some (.int .i64 R))] bt W') := hideIt (fun W' bt hb' => Hooks.add (HBA2.out.kept hb' HBA2.out.lt) (Hooks.add ((HBA2.out.kept hb' HBA2.out.lt).cell 1) (Hooks.nil _ _)))
      have hww : Below w2.heap.size w2 w2.drew := (Below.refl _ _).drew
      go_upto_region 4 with fail
      refine loads_begin_n 5 [(1, fun W => Blk W w.heap.size 24 (mtC F R C (.slice A la c))), (4, fun W => W.cell? ⟨w.heap.size, 1, none⟩ = some (.int .i64 R))] rfl (by kernel_rfl) ?_
      refine wpAnyL_take (oi := ⟨some 19, _, _, _, _, _⟩) 0 1 (mtV F R C (.slice A la c)) _ rfl (by kernel_rfl) (by kernel_rfl) (by kernel_rfl) (by kernel_rfl) (by kernel_rfl) (by kernel_rfl) (.head _) (fun _ _ _ h => h) (by kernel_rfl) (fun W' hW' => exec_ld rfl (ld_mt hW')) (HHK.out _ _ hww) ?_
      try simp only [Act.put]
      try simp only [List.setIfInBounds_toArray]
      try simp only [List.set_cons_succ]
      try simp only [List.set_cons_zero]
      refine wpAnyL_move (oi := ⟨some 21, _, _, _, _, _⟩) 2 ?_ rfl (by kernel_rfl) (by kernel_rfl) (by kernel_rfl) (by kernel_rfl) (fun _ _ _ h => h) (by kernel_rfl) ?_ (HHK.out _ _ hww) ?_
      rotate_left
      · intro W'; go_simp; first | done | with_reducible rfl
      try simp only [Act.put]
      try simp only [List.setIfInBounds_toArray]
      try simp only [List.set_cons_succ]
      try simp only [List.set_cons_zero]
      refine wpAnyL_take (oi := ⟨some 22, _, _, _, _, _⟩) 3 4 (.int .i64 R) _ rfl (by kernel_rfl) (by kernel_rfl) (by kernel_rfl) (by kernel_rfl) (by kernel_rfl) (by kernel_rfl) (.tail _ (.head _)) (fun _ _ _ h => h) (by kernel_rfl) (fun W' hW' => by have h := hW'; simp [execOp, h, go_sem]) (HHK.out _ _ hww) ?_
      try simp only [Act.put]
      try simp only [List.setIfInBounds_toArray]
      try simp only [List.set_cons_succ]
      try simp only [List.set_cons_zero]
      have HWW := hideIt hww
      generalize w2.drew = wd at *
      clear hww f0 f1 f2
      refine wpAnyL_one (o := ⟨some 20, _, _, _, _, _⟩) 1 (by kernel_rfl) rfl (fun K hK => ?_)
      go_wp2_with (go_at_call 26; refine (HRK.out _ (HW02.out.trans (HWW.out.mono HW02.out.size))).mono ?_; rintro e w3 ⟨rfl, hb3⟩; have HW3 := hideIt (HWW.out.trans (hb3.mono HWW.out.size)); clear hb3)
      refine hK _ _ (HHK.out _ _ HW3.out) ?_
      clear hK K
      refine loads_tail 4 (by kernel_rfl) (by kernel_rfl) (by kernel_rfl) (by kernel_rfl) ?_
      simp only [List.drop_succ_cons, List.drop_zero]
      have HBA3 := hideIt (HBA2.out.kept HW3.out HBA2.out.lt)
      have HPR3 := hideIt (HPR2.out.kept HW3.out HPR2.out.lt)
      have HW03 := hideIt (HW02.out.trans (HW3.out.mono HW02.out.size))
      clear HBA2 HPR2 HW02 HHK HWW HW3
      have f0 := HBA3.out.cell 0
      have f1 := HBA3.out.cell 1
      by_cases hzR : z < R
      · have HR4 : Hid (r = (zeroM, 10)) := hideIt (by rw [HR2.out, if_neg (HSI0.out.1 hzR)])
        clear HR2 HSI0 HSI
        go_wp2_with ((with_reducible refine at_store ?_); refine wpList_stM rfl (.tmp 2) (.tmp 24) rfl (w.heap.size + 1) 0 0 0 0 0 0 (.slice none 0 0) (.slice none 0 0) rfl rfl rfl HPR3.out ?_; intro w8 HT8 HB8)
        refine bodyPost_ret (results_two rfl _ _ (w.heap.size + 1) _ _ _ rfl HB8.out Tryd.underlying24 rfl isz4) rfl ?_
        rw [HR4.out]
        exact MRes.bad (HT8.out.below HW03.out (by omega)) 10
      · have h0 := HSI0.out.2 (by omega)
        have HR4 : Hid (r = (r2.1, 0)) := hideIt (by rw [HR2.out, if_pos h0])
        have H0 := hideIt h0
        clear HR2 HSI0 h0
        go_wp2_with fail
        refine (HID.out w3).mono ?_
        rintro e w4 ⟨s, rfl, ho, hb4⟩
        obtain ⟨B, cb, rfl, hin⟩ := MRes.min ho
        have HW04 := hideIt (HW03.out.trans (hb4.mono HW03.out.size))
        have HBA4 := hideIt (HBA3.out.kept hb4 HBA3.out.lt)
        have HPR4 := hideIt (HPR3.out.kept hb4 HPR3.out.lt)
        have HIN := hideIt hin
        have HB5 := hideIt (Blk.new w4 24 (mtC I.F I.R I.C (.slice B I.l.length cb)))
        have HW5 := hideIt (below_new w4 (.cells (mtC I.F I.R I.C (.slice B I.l.length cb)).toArray 24))
        clear ho hb4 hin f0 f1 HBA3 HPR3 HW03 HID
        go_wp2_with (first
          | ((with_reducible refine at_load ?_); refine wpList_ldM rfl (.tmp 1) rfl w.heap.size _ _ _ _ rfl (HBA4.out.alloc _) ?_)
          | ((with_reducible refine at_load ?_); refine wpList_ldM rfl (.tmp 5) rfl w4.heap.size _ _ _ _ rfl HB5.out ?_))
        refine (HSI.out B cb _ (HW04.out.trans (HW5.out.mono HW04.out.size)) (HIN.out.keep HW5.out)).mono ?_
        rintro e w5 ⟨s2, rfl, ho2, hb5⟩
        have HPR5 := hideIt ((HPR4.out.alloc _).kept hb5 (HPR4.out.alloc _).lt)
        have HW05 := hideIt ((HW04.out.trans (HW5.out.mono HW04.out.size)).trans (hb5.mono (HW04.out.trans (HW5.out.mono HW04.out.size)).size))
        have HLT := hideIt (Nat.lt_trans HPR4.out.lt (show w4.heap.size < (w4.alloc (.cells (mtC I.F I.R I.C (.slice B I.l.length cb)).toArray 24)).heap.size by simp))
        obtain ⟨A2, c2, rfl, _, _⟩ := own_form ho2
        have HO2 := hideIt ho2
        rw [H0.out]
        clear ho2 hb5 HSI
        go_wp2_with ((with_reducible refine at_store ?_); refine wpList_stM rfl (.tmp 2) (.tmp 36) rfl (w.heap.size + 1) _ _ _ _ _ _ _ _ rfl rfl rfl HPR5.out ?_; intro w8 HT8 HB8)
        refine bodyPost_ret (results_two rfl _ _ (w.heap.size + 1) _ _ _ rfl HB8.out Tryd.underlying24 rfl isz4) rfl ?_
        rw [HR4.out]
        refine ⟨.slice A2 r2.1.l.length c2, rfl, ?_, HT8.out.below HW05.out (by omega)⟩
        exact own_low (own_turn HO2.out HT8.out HLT.out) (HW04.out.trans (HW5.out.mono HW04.out.size)).size
    · have HR2 : Hid (r = (zeroM, 1)) := hideIt (by rw [HR.out]; exact if_neg (fun h => hRC h.2))
      have hq := int_neqT6 3 hRC
      clear hv hRC hs HR HSO HRK HID
      generalize a.l.length = la at *
      generalize a.F = F at *
      generalize a.R = R at *
      generalize a.C = C at *
      have a0 := HBA.out.cell 0
      have a1 := HBA.out.cell 1
      have a2 := HBA.out.cell 2
      have a3 := HBA.out.cell 3
      go_enter Tryd.func19, Tryd.ntmps19
      go_wp2_with fail
      rw [← HW1.out]
      refine (HV.out w1 HW01.out).mono ?_
      rintro e w2 ⟨rfl, hb2⟩
      have HBA2 := hideIt (HBA.out.kept hb2 HBA.out.lt)
      have HPR2 := hideIt (HPR.out.kept hb2 HPR.out.lt)
      have HW02 := hideIt (HW01.out.trans (hb2.mono HW01.out.size))
      have f0 := HBA2.out.cell 0
      have f1 := HBA2.out.cell 1
      have f2 := HBA2.out.cell 2
      clear hb2 HW1 HW01 HBA HPR HV a0 a1 a2 a3
      go_wp2_with ((with_reducible refine at_store ?_); refine wpList_stM rfl (.tmp 2) (.tmp 18) rfl (w.heap.size + 1) 0 0 0 0 0 0 (.slice none 0 0) (.slice none 0 0) rfl rfl rfl HPR2.out ?_; intro w8 HT8 HB8)
      refine bodyPost_ret (results_two rfl _ _ (w.heap.size + 1) _ _ _ rfl HB8.out Tryd.underlying24 rfl isz4) rfl ?_
      rw [HR2.out]
      exact MRes.bad (HT8.out.below HW02.out (by omega)) 1
  · rw [Bool.eq_false_iff.2 hv] at HV
    have HR2 : Hid (r = (zeroM, 1)) := hideIt (by rw [HR.out]; exact if_neg (fun h => hv h.1))
    clear hv hs HR HSO HRK HID
    generalize a.l.length = la at *
    generalize a.F = F at *
    generalize a.R = R at *
    generalize a.C = C at *
    have a0 := HBA.out.cell 0
    have a1 := HBA.out.cell 1
    have a2 := HBA.out.cell 2
    have a3 := HBA.out.cell 3
    go_enter Tryd.func19, Tryd.ntmps19
    go_wp2_with fail
    rw [← HW1.out]
    refine (HV.out w1 HW01.out).mono ?_
    rintro e w2 ⟨rfl, hb2⟩
    have HBA2 := hideIt (HBA.out.kept hb2 HBA.out.lt)
    have HPR2 := hideIt (HPR.out.kept hb2 HPR.out.lt)
    have HW02 := hideIt (HW01.out.trans (hb2.mono HW01.out.size))
    have f0 := HBA2.out.cell 0
    have f1 := HBA2.out.cell 1
    have f2 := HBA2.out.cell 2
    clear hb2 HW1 HW01 HBA HPR HV a0 a1 a2 a3
    go_wp2_with ((with_reducible refine at_store ?_); refine wpList_stM rfl (.tmp 2) (.tmp 18) rfl (w.heap.size + 1) 0 0 0 0 0 0 (.slice none 0 0) (.slice none 0 0) rfl rfl rfl HPR2.out ?_; intro w8 HT8 HB8)
    refine bodyPost_ret (results_two rfl _ _ (w.heap.size + 1) _ _ _ rfl HB8.out Tryd.underlying24 rfl isz4) rfl ?_
    rw [HR2.out]
    exact MRes.bad (HT8.out.below HW02.out (by omega)) 1

end Go.Proofs.YtodmcojcmihooaaDoor
