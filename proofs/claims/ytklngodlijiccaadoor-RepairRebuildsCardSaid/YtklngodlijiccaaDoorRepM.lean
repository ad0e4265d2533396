/-
  All plans as plain mathematics; the reference's All, walked.
-/
import Derived.Test.YtklngodlijiccaaDoorRepJ
namespace Go.Proofs.YtklngodlijiccaaDoor
open Go.RowKit
set_option linter.unusedVariables false
set_option linter.unusedSimpArgs false

abbrev PE := (Int × TL) × Int
/-- The plans up to the first error. -/
def foldE : List (Int × TL) → List PE → List (Int × TL) × Int
  | acc, [] => (acc, 0)
  | acc, y :: r => if y.2 = 0 then foldE (acc ++ [y.1]) r else ([], y.2)
/-- What Plan answers for the missing units from k on. -/
def yl (P : Nat → PE) : Nat → List Bool → List PE
  | _, [] => []
  | k, b :: r => if b = true then yl P (k + 1) r else P k :: yl P (k + 1) r
noncomputable def allR (x : Cd) (hs : List Bool) : List (Int × TL) × Int := if okB x hs = true then foldE [] (yl (fun k => planR x hs (k : Int)) 0 hs) else ([], 1)
theorem yl_at {P : Nat → PE} {hs : List Bool} {k : Nat} (h : k < hs.length) : yl P k (hs.drop k) = if hs[k] = true then yl P (k + 1) (hs.drop (k + 1)) else P k :: yl P (k + 1) (hs.drop (k + 1)) := by
  rw [List.drop_eq_getElem_cons h]; rfl
set_option maxHeartbeats 2000000 in
set_option maxRecDepth 100000 in
theorem rall_any (x : Cd) (A : Option Addr) (c : Nat) (w : World) (hx : CIn w x A) (hsm : Sm x) (hs : List Bool) (D : Option Addr) (cd : Nat) (hD : Sl w w.heap.size D 1 hs.length (hs.map bl)) :
    Calls Tryd.prog 21 #[x.v A c, .slice D hs.length cd] w fun e w' => ∃ v, e = .returned (.tuple #[v, .int .i64 (allR x hs).2]) ∧ PJ w' w.heap.size v (allR x hs).1 ∧ Below w.heap.size w w' := by
  obtain ⟨W, hW⟩ : ∃ W, W = w.alloc (.cells (x.cs A c).toArray 24) := ⟨_, rfl⟩
  have hbw : Below w.heap.size w W := by rw [hW]; exact below_new w _
  have HB := hideIt hbw
  have HBC := hideIt (show BC W w.heap.size x A c by rw [hW]; exact BC.new c hx)
  have HSD := hideIt ((hD.below hbw).wide hbw.size)
  have HV := hideIt (rwidth_any x A c W HBC.out.cin hsm)
  have HWE := hideIt hW
  have hnot := not_b
  obtain ⟨P, hP⟩ : ∃ P : Nat → PE, P = fun k : Nat => planR x hs (k : Int) := ⟨_, rfl⟩
  have HR := hideIt (show allR x hs = if okB x hs = true then foldE [] (yl P 0 hs) else ([], 1) by rw [hP]; rfl)
  have HOKN := hideIt (show okB x hs = (decide (0 < hs.length) && decide ((hs.length : Int) = wC x)) from okN_wC hs.length)
  have HPN := hideIt (fun (W2 : World) (h : Below W.heap.size W W2) (k : Nat) => show Calls Tryd.prog 13 #[x.v A c, .slice D hs.length cd, .int .i64 (k : Int)] W2 (PlRes W2 (P k)) by rw [hP]; exact rplan_any x A c W2 (HBC.out.keep h).cin hsm hs D cd ((HSD.out.below h).wide h.size) (k : Int))
  have HWL := hideIt (show vC x = true → wC x ≤ 32 from fun h => by
    obtain ⟨m, n, hvc⟩ := vC_spec h
    have h1 := hvc.wid
    have h2 := hvc.d
    unfold wC
    rw [if_pos h]
    omega)
  have HVV := hideIt (show okB x hs = true → vC x = true from fun h => by unfold okB at h; rw [Bool.and_eq_true] at h; exact h.1)
  clear hbw hx hD hW hP
  obtain ⟨R, hR⟩ : ∃ R, R = allR x hs := ⟨_, rfl⟩
  rw [← hR] at HR ⊢
  clear hR
  obtain ⟨z, hz⟩ : ∃ z, z = wC x := ⟨_, rfl⟩
  have hq0 := i_eql 3 .i64 z 0
  have hq1 := i_neq 3 .i64 (hs.length : Int) z
  rw [← hz] at HV HOKN HWL
  clear hz
  by_cases hok : okB x hs = true
  · have h1 := HOKN.out
    rw [hok] at h1
    have h1 := h1.symm
    rw [Bool.and_eq_true, decide_eq_true_eq, decide_eq_true_eq] at h1
    obtain ⟨h1, h2⟩ := h1
    have h32 := HWL.out (HVV.out hok)
    have HE := hideIt (HR.out.trans (if_pos hok))
    rw [decide_eq_false (by omega)] at hq0
    rw [decide_eq_false (fun h => h h2)] at hq1
    have hN : hs.length ≤ 32 := by omega
    subst h2
    clear hok HR h32 HWL HVV HOKN h1
    go_enter Tryd.func21, Tryd.ntmps21
    go_wp2_with (first
      | ((with_reducible refine at_load ?_); refine wpList_ldC (by kernel_rfl) (.tmp 2) rfl (p := w.heap.size) (c := c) rfl (by rw [← HWE.out]; exact HBC.out.box) ?_)
      | (go_at_call 27; rw [← HWE.out]; refine HV.out.mono ?_; rintro e w1 ⟨rfl, hb1⟩; have HB1 := hideIt hb1; clear hb1 HV))
    have HJ0 := hideIt (PJ.nil w1 W.heap.size)
    clear hq0 hq1
    go_loopg [7, 8] hs.length (fun gk s7 s8 wr => ∃ k : Nat, k + gk = hs.length ∧ s8 = .int .i64 (k : Int) ∧ (∃ acc, Aside (PJ wr W.heap.size s7 acc) ∧ Aside (foldE acc (yl P k (hs.drop k)) = R) ∧ Aside (acc.length ≤ k)) ∧ Aside (Below W.heap.size W wr))
    case atStart => exact ⟨0, by omega, rfl, ⟨[], HJ0.out, HE.out.symm, Nat.le_refl _⟩, HB1.out⟩
    case round =>
      obtain ⟨k, hk, rfl, ⟨acc, HJ, HF, HAL⟩, HL⟩ := hrel
      obtain ⟨w4, rfl⟩ : ∃ x, x = wr := ⟨wr, rfl⟩
      by_cases hlt : k < hs.length
      · obtain ⟨b, o, v, hDe, hb, hv, hc⟩ := (HSD.out.below HL.out).at_ hlt
        have hinc := inc_c 3 k (by omega)
        have hki : (k : Int) < (hs.length : Int) := by omega
        have HYL := hideIt (yl_at (P := P) hlt)
        rw [List.getElem?_map, List.getElem?_eq_getElem hlt] at hv
        injection hv with hv
        subst hv hDe
        generalize hs[k] = bk at *
        have hal := HAL.out
        cases bk with
        | true =>
          have HF2 := hideIt (show foldE acc (yl P (k + 1) (hs.drop (k + 1))) = R by rw [← HF.out, HYL.out, if_pos rfl])
          clear hb HYL
          go_wp2_with fail
          go_roundg (gk - 1)
          case measure => omega
          case rel => exact ⟨k + 1, by omega, by go_num, ⟨acc, HJ.out, HF2.out, Nat.le_succ_of_le HAL.out⟩, HL.out⟩
        | false =>
          have HF1 := hideIt (show foldE acc (P k :: yl P (k + 1) (hs.drop (k + 1))) = R by rw [← HF.out, HYL.out, if_neg (by decide)])
          have HBX4 := hideIt (HBC.out.keep HL.out).box
          have HPK := hideIt (HPN.out w4 HL.out k)
          generalize P k = y at *
          obtain ⟨⟨pu, pL⟩, pe⟩ := y
          have HPK := hideIt (show Calls Tryd.prog 13 #[x.v A c, .slice (some ⟨b, o, none⟩) hs.length cd, .int .i64 (k : Int)] w4 (fun e w' => ∃ A c, e = .returned (.tuple #[.agg #[.int .i64 pu, .slice A pL.length c], .int .i64 pe]) ∧ Sl w' w'.heap.size A 2 pL.length (tcs pL) ∧ (∀ b o, A = some ⟨b, o, none⟩ → w4.heap.size ≤ b) ∧ Below w4.heap.size w4 w') from HPK.out)
          have hpe := i_neq 31 .i64 pe 0
          obtain ⟨A3, c3, hv3, _⟩ := HJ.out.form
          subst hv3
          clear hb HYL
          by_cases he : pe = 0
          · rw [decide_eq_false (fun h => h he)] at hpe
            have HF2 := hideIt (show foldE (acc ++ [(pu, pL)]) (yl P (k + 1) (hs.drop (k + 1))) = R from (if_pos he).symm.trans HF1.out)
            clear he HF1
            go_wp2_with (first
              | ((with_reducible refine at_load ?_); refine wpList_ldC (by kernel_rfl) (.tmp 2) rfl (p := w.heap.size) (c := c) rfl HBX4.out ?_)
              | (go_at_call 13; refine HPK.out.mono ?_; rintro e w8 ⟨A9, c9, rfl, hs9, hl9, hb9⟩; have HS9 := hideIt hs9; have HLO9 := hideIt hl9; have HB9 := hideIt hb9; clear hs9 hl9 hb9 HPK)
              | ((with_reducible refine at_store ?_); refine wpList_put rfl _ (.tmp 9) (.tmp 35) rfl w8.heap.size [.int .i64 pu, .slice A9 pL.length c9] [.int .i64 0, .slice none 0 0] 30 rfl rfl (Blk.new w8 30 [.int .i64 0, .slice none 0 0]) iszP rfl (by simp [Value.oneCell']) ?_; intro w9 ht9 hbk9; have HK9 := hideIt hbk9; have HB8 := hideIt (ht9.below (below_new w8 (.cells #[.int .i64 0, .slice none 0 0] 30)) (Nat.le_refl _)); have HB49 := hideIt (HB9.out.trans (HB8.out.mono HB9.out.size)); obtain ⟨vs, hvs1, hvs2⟩ := HJ.out.keep HB49.out; have HV1 := hideIt hvs1; have HV2 := hideIt hvs2; have HS99 := hideIt ((HS9.out.below HB8.out).wide HB8.out.size); have HSZ := hideIt (Nat.le_trans HL.out.size HB49.out.size); clear ht9 hbk9 hvs1 hvs2)
              | ((with_reducible refine at_load ?_); refine wpList_get rfl _ (.tmp 9) rfl w8.heap.size [.int .i64 pu, .slice A9 pL.length c9] 30 _ rfl HK9.out Tryd.underlying30 rfl iszP ?_)
              | ((with_reducible refine at_append ?_); refine wpList_apP (u := pu) (A := A9) (k := pL.length) (c := c9) (n := acc.length) (us := pcells vs) rfl (.tmp 40) (.tmp 42) rfl rfl HV1.out rfl (by omega) HSZ.out ?_; intro v8 w10 HO8 HG8 HA8 HBB))
            have HNB := hideIt (show ∀ b o, A9 = some ⟨b, o, none⟩ → W.heap.size ≤ b ∧ (Value.slice A3 acc.length c3).ownBlock ≠ some b from fun b o hA => ⟨Nat.le_trans HL.out.size (HLO9.out b o hA), fun e => by
              have h1 := HLO9.out b o hA
              obtain ⟨ws, hw1, _⟩ := HJ.out
              rcases hw1.2 with ⟨hn, _⟩ | ⟨g, cap, cur, hv, hb, hg, _⟩
              · rw [hn] at e; cases e
              · rw [hv] at e
                injection e with e
                have := (Array.getElem?_eq_some_iff.1 hg).1
                change g = b at e
                omega⟩)
            go_roundg (gk - 1)
            case measure => omega
            case rel => exact ⟨k + 1, by omega, by go_num, ⟨acc ++ [(pu, pL)], PJ.snoc HV1.out HV2.out HS99.out (fun _ => HNB.out) HO8.out HG8.out HA8.out (by have := HG8.out.size; simp at this; omega), HF2.out, by have := HAL.out; unfold Aside; rw [List.length_append]; simp; omega⟩, HL.out.trans ((HB49.out.mono HL.out.size).trans HBB.out)⟩
          · rw [decide_eq_true he] at hpe
            have HF2 := hideIt (show R = ([], pe) from HF1.out.symm.trans (if_neg he))
            clear he HF1
            go_wp2_with (first
              | ((with_reducible refine at_load ?_); refine wpList_ldC (by kernel_rfl) (.tmp 2) rfl (p := w.heap.size) (c := c) rfl HBX4.out ?_)
              | (go_at_call 13; refine HPK.out.mono ?_; rintro e w8 ⟨A9, c9, rfl, hs9, hl9, hb9⟩; have HB9 := hideIt hb9; clear hs9 hl9 hb9 HPK)
              | ((with_reducible refine at_store ?_); refine wpList_put rfl _ (.tmp 9) (.tmp 35) rfl w8.heap.size [.int .i64 pu, .slice A9 pL.length c9] [.int .i64 0, .slice none 0 0] 30 rfl rfl (Blk.new w8 30 [.int .i64 0, .slice none 0 0]) iszP rfl (by simp [Value.oneCell']) ?_; intro w9 ht9 hbk9; have HB8 := hideIt (ht9.below (below_new w8 (.cells #[.int .i64 0, .slice none 0 0] 30)) (Nat.le_refl _)); have HB49 := hideIt (HB9.out.trans (HB8.out.mono HB9.out.size)); clear ht9 hbk9))
            go_ret2
            rw [HF2.out]
            exact ⟨_, rfl, PJ.nil _ _, HB.out.trans ((HL.out.trans (HB49.out.mono HL.out.size)).mono HB.out.size)⟩
      · have hki : ¬ (k : Int) < (hs.length : Int) := by omega
        have HF2 := hideIt (show R = (acc, 0) by rw [← HF.out, List.drop_eq_nil_of_le (by omega)]; rfl)
        go_wp2_with fail
        go_ret2
        rw [HF2.out]
        exact ⟨_, rfl, HJ.out.low HB.out.size, HB.out.trans (HL.out.mono HB.out.size)⟩
  · have HE := hideIt (HR.out.trans (if_neg hok))
    have hc := HOKN.out
    rw [Bool.eq_false_iff.2 hok] at hc
    clear hok HR HOKN HVV HWL
    rw [HE.out]
    by_cases h0 : z = 0
    · rw [decide_eq_true h0] at hq0
      clear h0 hc hq1
      go_enter Tryd.func21, Tryd.ntmps21
      go_wp2_with (first
        | ((with_reducible refine at_load ?_); refine wpList_ldC (by kernel_rfl) (.tmp 2) rfl (p := w.heap.size) (c := c) rfl (by rw [← HWE.out]; exact HBC.out.box) ?_)
        | (go_at_call 27; rw [← HWE.out]; refine HV.out.mono ?_; rintro e w1 ⟨rfl, hb1⟩; have HB1 := hideIt hb1; clear hb1 HV))
      go_ret2
      exact ⟨_, rfl, PJ.nil _ _, HB.out.trans (HB1.out.mono HB.out.size)⟩
    · rw [decide_eq_false h0] at hq0
      have hn : (hs.length : Int) ≠ z := fun e => by
        rw [decide_eq_true e, decide_eq_true (show 0 < hs.length by omega)] at hc
        cases hc
      rw [decide_eq_true hn] at hq1
      clear h0 hc hn
      go_enter Tryd.func21, Tryd.ntmps21
      go_wp2_with (first
        | ((with_reducible refine at_load ?_); refine wpList_ldC (by kernel_rfl) (.tmp 2) rfl (p := w.heap.size) (c := c) rfl (by rw [← HWE.out]; exact HBC.out.box) ?_)
        | (go_at_call 27; rw [← HWE.out]; refine HV.out.mono ?_; rintro e w1 ⟨rfl, hb1⟩; have HB1 := hideIt hb1; clear hb1 HV))
      go_ret2
      exact ⟨_, rfl, PJ.nil _ _, HB.out.trans (HB1.out.mono HB.out.size)⟩
end Go.Proofs.YtklngodlijiccaaDoor
