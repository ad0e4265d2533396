/-
  The reference's At, walked.
-/
import Derived.Test.YtodmcojcmihooaaDoorRefV
namespace Go.Proofs.YtodmcojcmihooaaDoor
open Go.RowKit
set_option linter.unusedVariables false

set_option maxHeartbeats 1000000 in
theorem rat_any (a : Mt) (i j : Int) (A : Option Addr) (c : Nat) (w : World) (hs : MIn w a A c) :
    Calls Tryd.prog 24 #[mtV a.F a.R a.C (.slice A a.l.length c), .int .i64 i, .int .i64 j] w fun e w' => e = .returned (.int .i64 (atM a i j)) ∧ Below w.heap.size w w' := by
  have HV := hideIt (rvalid_b hs)
  have HB := hideIt (Blk.new w 24 (mtC a.F a.R a.C (.slice A a.l.length c)))
  by_cases hv : vM a = true
  · obtain ⟨m, R, C, hm, hR, hC, hE, ha⟩ := vM_is hv
    generalize a.e = E at ha hE
    subst ha
    obtain ⟨b, o, hI, hb⟩ := mk_cell hs
    have hcap := hs.cap
    rw [mk_len] at HV HB hcap ⊢
    rw [hv] at HV
    have HVV := hideIt hv
    change Hid (∀ W, Below w.heap.size w W → Calls Tryd.prog 22 #[mtV (m : Int) (R : Int) (C : Int) (.slice A (R * C) c)] W fun e w' => e = .returned (.bool true) ∧ Below W.heap.size W w') at HV
    change Hid (Blk _ _ _ (mtC (m : Int) (R : Int) (C : Int) (.slice A (R * C) c))) at HB
    show Calls Tryd.prog 24 #[mtV (m : Int) (R : Int) (C : Int) (.slice A (R * C) c), .int .i64 i, .int .i64 j] w _
    obtain ⟨z, hz⟩ : ∃ z, z = atM (mkM m R C E) i j := ⟨_, rfl⟩
    rw [← hz]
    have HZ := hideIt hz
    have HI := hideIt hI
    clear hv hE hs hI hz
    by_cases h1 : 0 ≤ i
    · by_cases h2 : i < (R : Int)
      · by_cases h3 : 0 ≤ j
        · by_cases h4 : j < (C : Int)
          · obtain ⟨i', rfl⟩ := Int.eq_ofNat_of_zero_le h1
            obtain ⟨j', rfl⟩ := Int.eq_ofNat_of_zero_le h3
            have hlt := ix_lt (i := i') (j := j') (R := R) (C := C) (by omega) (by omega)
            have hle2 : R * C ≤ 32 * 32 := Nat.mul_le_mul hR hC
            have hmul := nmul 3 i' C (by omega)
            have hadd := nadd 3 (i' * C) j' (by omega)
            have hc0 := HI.out.cell (i' * C + j') hlt
            rw [gl_at E (by omega)] at hc0
            have hA := HI.out.adr (by omega)
            subst hA
            have HEQ := hideIt (show z = ((E i' j' : Nat) : Int) by
              rw [HZ.out]; unfold atM
              rw [if_pos ⟨HVV.out, by omega, by show (i' : Int) < (R : Int); omega, by omega, by show (j' : Int) < (C : Int); omega⟩]
              rw [Int.toNat_natCast, Int.toNat_natCast, mkM_e (by omega) (by omega)])
            have HC := hideIt hc0
            have hlti : ((i' * C + j' : Nat) : Int) < ((R * C : Nat) : Int) := by omega
            generalize E i' j' = x at *
            generalize hp : i' * C + j' = p at *
            generalize i' * C = q at *
            generalize R * C = n at *
            clear hp hc0
            go_enter Tryd.func24, Tryd.ntmps24
            go_wp2_with (go_at_call 22; refine (HV.out _ (below_new w _)).mono ?_; rintro e w2 ⟨rfl, hb2⟩; have HB2 := hideIt (HB.out.kept hb2 HB.out.lt); have HW2 := hideIt hb2; have f0 := HB2.out.cell 0; have f1 := HB2.out.cell 1; have f2 := HB2.out.cell 2; have f3 := HB2.out.cell 3; have hcell := ((below_new w _).trans (hb2.mono (by simp))).cell (p := ⟨b, o + p, none⟩) (hb (by omega)) |>.trans HC.out; clear hb2)
            go_ret
            exact ⟨by rw [HEQ.out]; rfl, (below_new w _).trans (HW2.out.mono (by simp))⟩
          · have HEQ := hideIt (show z = 0 by rw [HZ.out]; unfold atM; rw [if_neg (fun h => h4 h.2.2.2.2)])
            clear hb
            generalize R * C = n at *
            go_enter Tryd.func24, Tryd.ntmps24
            go_wp2_with (go_at_call 22; refine (HV.out _ (below_new w _)).mono ?_; rintro e w2 ⟨rfl, hb2⟩; have HB2 := hideIt (HB.out.kept hb2 HB.out.lt); have HW2 := hideIt hb2; have f0 := HB2.out.cell 0; have f1 := HB2.out.cell 1; have f2 := HB2.out.cell 2; have f3 := HB2.out.cell 3; clear hb2)
            all_goals
              go_ret
              exact ⟨by rw [HEQ.out]; rfl, (below_new w _).trans (HW2.out.mono (by simp))⟩
        · have HEQ := hideIt (show z = 0 by rw [HZ.out]; unfold atM; rw [if_neg (fun h => h3 h.2.2.2.1)])
          clear hb
          generalize R * C = n at *
          go_enter Tryd.func24, Tryd.ntmps24
          go_wp2_with (go_at_call 22; refine (HV.out _ (below_new w _)).mono ?_; rintro e w2 ⟨rfl, hb2⟩; have HB2 := hideIt (HB.out.kept hb2 HB.out.lt); have HW2 := hideIt hb2; have f0 := HB2.out.cell 0; have f1 := HB2.out.cell 1; have f2 := HB2.out.cell 2; have f3 := HB2.out.cell 3; clear hb2)
          all_goals
            go_ret
            exact ⟨by rw [HEQ.out]; rfl, (below_new w _).trans (HW2.out.mono (by simp))⟩
      · have HEQ := hideIt (show z = 0 by rw [HZ.out]; unfold atM; rw [if_neg (fun h => h2 h.2.2.1)])
        clear hb
        generalize R * C = n at *
        go_enter Tryd.func24, Tryd.ntmps24
        go_wp2_with (go_at_call 22; refine (HV.out _ (below_new w _)).mono ?_; rintro e w2 ⟨rfl, hb2⟩; have HB2 := hideIt (HB.out.kept hb2 HB.out.lt); have HW2 := hideIt hb2; have f0 := HB2.out.cell 0; have f1 := HB2.out.cell 1; have f2 := HB2.out.cell 2; have f3 := HB2.out.cell 3; clear hb2)
        all_goals
          go_ret
          exact ⟨by rw [HEQ.out]; rfl, (below_new w _).trans (HW2.out.mono (by simp))⟩
    · have HEQ := hideIt (show z = 0 by rw [HZ.out]; unfold atM; rw [if_neg (fun h => h1 h.2.1)])
      clear hb
      generalize R * C = n at *
      go_enter Tryd.func24, Tryd.ntmps24
      go_wp2_with (go_at_call 22; refine (HV.out _ (below_new w _)).mono ?_; rintro e w2 ⟨rfl, hb2⟩; have HB2 := hideIt (HB.out.kept hb2 HB.out.lt); have HW2 := hideIt hb2; have f0 := HB2.out.cell 0; have f1 := HB2.out.cell 1; have f2 := HB2.out.cell 2; have f3 := HB2.out.cell 3; clear hb2)
      all_goals
        go_ret
        exact ⟨by rw [HEQ.out]; rfl, (below_new w _).trans (HW2.out.mono (by simp))⟩
  · have HEQ := hideIt (show atM a i j = 0 by unfold atM; rw [if_neg (fun h => hv h.1)])
    rw [Bool.eq_false_iff.2 hv] at HV
    obtain ⟨z, hz⟩ : ∃ z, z = atM a i j := ⟨_, rfl⟩
    rw [← hz] at HEQ ⊢
    clear hv hs hz
    generalize a.l.length = n at *
    generalize a.F = F at *
    generalize a.R = R at *
    generalize a.C = C at *
    go_enter Tryd.func24, Tryd.ntmps24
    go_wp2_with (go_at_call 22; refine (HV.out _ (below_new w _)).mono ?_; rintro e w2 ⟨rfl, hb2⟩; have HB2 := hideIt (HB.out.kept hb2 HB.out.lt); have HW2 := hideIt hb2; have f0 := HB2.out.cell 0; have f1 := HB2.out.cell 1; have f2 := HB2.out.cell 2; have f3 := HB2.out.cell 3; clear hb2)
    go_ret
    exact ⟨by rw [HEQ.out]; rfl, (below_new w _).trans (HW2.out.mono (by simp))⟩

end Go.Proofs.YtodmcojcmihooaaDoor
