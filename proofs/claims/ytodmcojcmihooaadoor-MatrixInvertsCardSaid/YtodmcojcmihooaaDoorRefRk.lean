/-
  The reference's Rank and Independent, walked.
-/
import Derived.Test.YtodmcojcmihooaaDoorRefRd
namespace Go.Proofs.YtodmcojcmihooaaDoor
open Go.RowKit
set_option linter.unusedVariables false

theorem RRes.mk {W w' : World} {m R C : Nat} {M : Mx} {pv : List Nat} {e : Ending} (h : RRes W (mkM m R C M) pv e w') : ∃ A c A2 c2, e = .returned (.tuple #[mtV (m : Int) (R : Int) (C : Int) (.slice A (R * C) c), .slice A2 pv.length c2]) ∧
    w'.ownsRow W.heap.size 3 1 (.slice A (R * C) c) (R * C) ((nl (R * C) (gl C M)).map iv) ∧ R * C ≤ c ∧ c ≤ maxLen ∧ w'.ownsRow W.heap.size 3 1 (.slice A2 pv.length c2) pv.length (pvC pv) ∧ pv.length ≤ c2 ∧ c2 ≤ maxLen ∧ Below W.heap.size W w' := by
  obtain ⟨s, v, he, ho, hv, hb⟩ := h
  have ho2 : w'.ownsRow W.heap.size 3 1 s (mkM m R C M).l.length ((nl (R * C) (gl C M)).map iv) := ho
  rw [mk_len] at ho2
  obtain ⟨A, c, rfl, h1, h2⟩ := own_form ho2
  obtain ⟨A2, c2, rfl, h3, h4⟩ := own_form hv
  exact ⟨A, c, A2, c2, he, ho2, h1, h2, hv, h3, h4, hb⟩
theorem pvL_len (pv : List Nat) : (pvL pv).length = pv.length := nl_len _ _
theorem indM_mk {m R C : Nat} {E : Mx} (hv : vM (mkM m R C E) = true) (hE : ∀ i j, i < R → j < C → (mkM m R C E).e i j = E i j) : indM (mkM m R C E) = pvL (red m C (tr E) R).2 := by
  unfold indM
  rw [if_pos hv]
  show pvL (red ((m : Int)).toNat ((C : Int)).toNat (tr (mkM m R C E).e) ((R : Int)).toNat).2 = _
  rw [Int.toNat_natCast, Int.toNat_natCast, Int.toNat_natCast]
  rw [(red_congr (m := m) (R := C) (C := R) (fun i j hi hj => show tr (mkM m R C E).e i j = tr E i j from hE j i hj hi) R (Nat.le_refl _)).1]
theorem rankM_mk {m R C : Nat} {E : Mx} (hm : Fm m) (hE : Vm m E) (hv : vM (mkM m R C E) = true) : rankM (mkM m R C E) = ((rk m R C E : Nat) : Int) := by
  unfold rankM
  rw [if_pos hv, indM_mk hv (fun i j hi hj => mkM_e hi hj), pvL_len]
  show ((rk m C R (tr E) : Nat) : Int) = _
  rw [rk_tr hm R C hE]

set_option maxHeartbeats 1000000 in
theorem rrank_any (a : Mt) (A : Option Addr) (c : Nat) (w : World) (hs : MIn w a A c) :
    Calls Tryd.prog 26 #[mtV a.F a.R a.C (.slice A a.l.length c)] w fun e w' => e = .returned (.int .i64 (rankM a)) ∧ Below w.heap.size w w' := by
  have HV := hideIt (rvalid_b hs)
  have HB := hideIt (Blk.new w 24 (mtC a.F a.R a.C (.slice A a.l.length c)))
  obtain ⟨z, hz⟩ : ∃ z, z = rankM a := ⟨_, rfl⟩
  rw [← hz]
  have HZ := hideIt hz
  clear hz
  by_cases hv : vM a = true
  · rw [hv] at HV
    obtain ⟨m, R, C, hm, hR, hC, hE, ha⟩ := vM_is hv
    generalize a.e = E at ha hE
    subst ha
    have HZ2 : Hid (z = (((red m R E C).2.length : Nat) : Int)) := hideIt (HZ.out.trans (rankM_mk hm hE hv))
    have HRE := hideIt (fun W (hW : Below w.heap.size w W) => rred_any m R C C hm E hE (by omega) (by omega) (Nat.le_refl _) A c W (hs.keep hW))
    rw [mk_len] at HV HB ⊢
    change Hid (∀ W, Below w.heap.size w W → Calls Tryd.prog 22 #[mtV (m : Int) (R : Int) (C : Int) (.slice A (R * C) c)] W fun e w' => e = .returned (.bool true) ∧ Below W.heap.size W w') at HV
    change Hid (Blk _ _ _ (mtC (m : Int) (R : Int) (C : Int) (.slice A (R * C) c))) at HB
    show Calls Tryd.prog 26 #[mtV (m : Int) (R : Int) (C : Int) (.slice A (R * C) c)] w _
    have b0 := HB.out.cell 0
    have b1 := HB.out.cell 1
    have b2 := HB.out.cell 2
    have b3 := HB.out.cell 3
    clear hv hs hE hm HZ
    go_enter Tryd.func26, Tryd.ntmps26
    go_wp2_with fail
    refine (HV.out _ (below_new w _)).mono ?_
    rintro e w2 ⟨rfl, hb2⟩
    have HB2 := hideIt (HB.out.kept hb2 HB.out.lt)
    have HW2 := hideIt ((below_new w (.cells (mtC (m : Int) (R : Int) (C : Int) (.slice A (R * C) c)).toArray 24)).trans (hb2.mono (by simp)))
    clear hb2 b0 b1 b2 b3 HV
    have f2 := HB2.out.cell 2
    go_wp2_with ((with_reducible refine at_load ?_); refine wpList_ldM rfl (.tmp 1) rfl w.heap.size _ _ _ _ rfl HB2.out ?_)
    refine (HRE.out w2 HW2.out).mono ?_
    rintro e w3 hres
    obtain ⟨A', c', A2, c2, rfl, hos, _, _, hov, _, _, hb3⟩ := hres.mk
    have HW3 := hideIt (HW2.out.trans (hb3.mono HW2.out.size))
    clear hres hos hov hb3 f2 HRE
    generalize red m R E C = rr at *
    go_wp2_with fail
    go_ret
    exact ⟨by rw [HZ2.out]; rfl, (HW3.out.alloc HW3.out.size _)⟩
  · have HZ2 : Hid (z = -1) := hideIt (HZ.out.trans (if_neg hv))
    rw [Bool.eq_false_iff.2 hv] at HV
    clear hv hs HZ
    generalize a.l.length = n at *
    generalize a.F = F at *
    generalize a.R = R at *
    generalize a.C = C at *
    have b0 := HB.out.cell 0
    have b1 := HB.out.cell 1
    have b2 := HB.out.cell 2
    have b3 := HB.out.cell 3
    go_enter Tryd.func26, Tryd.ntmps26
    go_wp2_with fail
    refine (HV.out _ (below_new w _)).mono ?_
    rintro e w2 ⟨rfl, hb2⟩
    have HW2 := hideIt ((below_new w (.cells (mtC F R C (.slice A n c)).toArray 24)).trans (hb2.mono (by simp)))
    clear hb2 b0 b1 b2 b3
    go_wp2_with fail
    go_ret
    exact ⟨by rw [HZ2.out]; rfl, HW2.out⟩

set_option maxHeartbeats 1000000 in
theorem rindep_any (a : Mt) (A : Option Addr) (c : Nat) (w : World) (hs : MIn w a A c) :
    Calls Tryd.prog 29 #[mtV a.F a.R a.C (.slice A a.l.length c)] w (LRes w (indM a)) := by
  have HTR := hideIt (fun W (hW : Below w.heap.size w W) => rtransp_any a A c W (hs.keep hW))
  have HB := hideIt (Blk.new w 24 (mtC a.F a.R a.C (.slice A a.l.length c)))
  obtain ⟨l, hl0⟩ : ∃ l, l = indM a := ⟨_, rfl⟩
  rw [← hl0]
  have HL := hideIt hl0
  clear hl0
  by_cases hv : vM a = true
  · have HL2 : Hid (l = pvL (red a.F.toNat a.C.toNat (tr a.e) a.R.toNat).2) := hideIt (by rw [HL.out]; exact if_pos hv)
    rw [show trM a = (mkM a.F.toNat a.C.toNat a.R.toNat (tr a.e), 0) from if_pos hv] at HTR
    obtain ⟨m, R, C, hm, hR, hC, hE, ha⟩ := vM_is hv
    generalize a.e = E at ha hE HL2 HTR
    subst ha
    rw [mk_len] at HTR HB ⊢
    change Hid (∀ W, Below w.heap.size w W → Calls Tryd.prog 15 #[mtV (m : Int) (R : Int) (C : Int) (.slice A (R * C) c)] W (MRes W (mkM ((m : Int)).toNat ((C : Int)).toNat ((R : Int)).toNat (tr E), 0))) at HTR
    show Calls Tryd.prog 29 #[mtV (m : Int) (R : Int) (C : Int) (.slice A (R * C) c)] w _
    change Hid (l = pvL (red ((m : Int)).toNat ((C : Int)).toNat (tr E) ((R : Int)).toNat).2) at HL2
    rw [Int.toNat_natCast, Int.toNat_natCast, Int.toNat_natCast] at HL2 HTR
    have HE := hideIt (show Vm m (tr E) from fun i j => hE j i)
    have HRE := hideIt (fun A' c' W (h : MIn W (mkM m C R (tr E)) A' c') => rred_any m C R R hm (tr E) HE.out (by omega) (by omega) (Nat.le_refl _) A' c' W h)
    change Hid (Blk _ _ _ (mtC (m : Int) (R : Int) (C : Int) (.slice A (R * C) c))) at HB
    have b0 := HB.out.cell 0
    have b1 := HB.out.cell 1
    have b2 := HB.out.cell 2
    have b3 := HB.out.cell 3
    clear hv hE hs HL hm HB
    generalize tr E = F at *
    go_enter Tryd.func29, Tryd.ntmps29
    go_wp2_with fail
    refine (HTR.out _ (below_new w _)).mono ?_
    rintro e w2 hM
    obtain ⟨A', c', rfl, ho, hc1, hc2, hb⟩ := hM.mk
    have HIN := hideIt (show MIn w2 (mkM m C R F) A' c' from by
      obtain ⟨A2, c2, h1, h2⟩ := MRes.min (show w2.ownsRow _ 3 1 (.slice A' (C * R) c') (mkM m C R F).l.length ((mkM m C R F).l.map iv) by rw [mk_len]; exact ho)
      rw [mk_len] at h1
      injection h1 with e1 e2 e3
      subst e1 e3
      exact h2)
    have HW2 := hideIt ((below_new w (.cells (mtC (m : Int) (R : Int) (C : Int) (.slice A (R * C) c)).toArray 24)).trans (hb.mono (by simp)))
    have HB3 := hideIt (Blk.new w2 24 (mtC (m : Int) (C : Int) (R : Int) (.slice A' (C * R) c')))
    have HW3 := hideIt (below_new w2 (.cells (mtC (m : Int) (C : Int) (R : Int) (.slice A' (C * R) c')).toArray 24))
    clear hM ho hb HTR b0 b1 b2 b3
    have f0 := HB3.out.cell 0
    have f1 := HB3.out.cell 1
    have f2 := HB3.out.cell 2
    have f3 := HB3.out.cell 3
    go_wp2_with fail
    refine (HRE.out A' c' _ (HIN.out.keep HW3.out)).mono ?_
    rintro e w4 hres
    obtain ⟨A3, c3, A2, c2, rfl, hos, _, _, hov, _, _, hb4⟩ := hres.mk
    have hW4 := (HW2.out.trans (HW3.out.mono HW2.out.size)).trans (hb4.mono (HW2.out.trans (HW3.out.mono HW2.out.size)).size)
    have HW4 := hideIt hW4
    have HOV := hideIt (own_low hov (HW2.out.trans (HW3.out.mono HW2.out.size)).size)
    clear hW4 hres hos hov hb4 f0 f1 f2 f3 HRE HIN HW2 HW3 HB3
    generalize red m C F R = rr at *
    go_wp2_with fail
    go_ret
    refine ⟨_, rfl, ?_, HW4.out.alloc HW4.out.size _⟩
    rw [HL2.out, pvL_len]
    exact own_kept HOV.out (below_new w4 _)
  · have HL2 : Hid (l = []) := hideIt (by rw [HL.out]; exact if_neg hv)
    rw [show trM a = (zeroM, 1) from if_neg hv] at HTR
    have b0 := HB.out.cell 0
    have b1 := HB.out.cell 1
    have b2 := HB.out.cell 2
    have b3 := HB.out.cell 3
    clear hv hs HL HB
    generalize a.l.length = n at *
    generalize a.F = F at *
    generalize a.R = R at *
    generalize a.C = C at *
    go_enter Tryd.func29, Tryd.ntmps29
    go_wp2_with fail
    refine (HTR.out _ (below_new w _)).mono ?_
    rintro e w2 ⟨s, rfl, ho, hb⟩
    have HW2 := hideIt ((below_new w (.cells (mtC F R C (.slice A n c)).toArray 24)).trans (hb.mono (by simp)))
    obtain ⟨A', c', rfl, _, _⟩ := own_form ho
    clear ho hb b0 b1 b2 b3
    go_wp2_with fail
    go_ret
    refine ⟨_, rfl, ?_, HW2.out.alloc HW2.out.size _⟩
    rw [HL2.out]
    exact World.ownsRow_nil _ _ _ _

end Go.Proofs.YtodmcojcmihooaaDoor
