/-
  Same, and the law's own small functions, walked.
-/
import Derived.Test.YtodmcojcmihooaaDoorRefIn
namespace Go.Proofs.YtodmcojcmihooaaDoor
open Go.RowKit
set_option linter.unusedVariables false

/-- What Same answers. -/
def sameM (a b : Mt) : Bool := decide (a.F = b.F ∧ a.R = b.R ∧ a.C = b.C ∧ a.l = b.l)
theorem sameM_self (a : Mt) : sameM a a = true := decide_eq_true ⟨rfl, rfl, rfl, rfl⟩
theorem getD_in6 {l : List Int} {i : Nat} (h : i < l.length) : l.getD i 0 = l[i] := by rw [List.getD_eq_getElem?_getD, List.getElem?_eq_getElem h]; rfl
theorem list_eq_of {l k : List Int} (hl : l.length = k.length) (h : ∀ i, i < l.length → l.getD i 0 = k.getD i 0) : l = k := List.ext_getElem hl (fun i h1 h2 => by rw [← getD_in6 h1, ← getD_in6 h2]; exact h i h1)
theorem sl_getD {w : World} {A : Option Addr} {l : List Int} (hs : Sl w w.heap.size A 1 l.length (l.map iv)) {i : Nat} (hi : i < l.length) : ∃ b o, A = some ⟨b, o, none⟩ ∧ b < w.heap.size ∧ w.cell? ⟨b, o + i, none⟩ = some (.int .i64 (l.getD i 0)) := by
  obtain ⟨b, o, h1, h2, h3⟩ := hs.num hi
  exact ⟨b, o, h1, h2, by rw [h3, getD_in6 hi]⟩

set_option maxHeartbeats 2000000 in
set_option maxRecDepth 100000 in
theorem rsame_any (a b : Mt) (A B : Option Addr) (ca cb : Nat) (w : World) (hsa : MIn w a A ca) (hsb : MIn w b B cb) (hmax : a.l.length ≤ 100000) :
    Calls Tryd.prog 20 #[mtV a.F a.R a.C (.slice A a.l.length ca), mtV b.F b.R b.C (.slice B b.l.length cb)] w fun e w' => e = .returned (.bool (sameM a b)) ∧ Below w.heap.size w w' := by
  obtain ⟨r, hr⟩ : ∃ r, r = sameM a b := ⟨_, rfl⟩
  rw [← hr]
  have HR := hideIt hr
  clear hr
  obtain ⟨w1, hw1⟩ : ∃ w1, w1 = (w.alloc (.cells #[.int .i64 a.F, .int .i64 a.R, .int .i64 a.C, .slice A a.l.length ca] 24)).alloc (.cells #[.int .i64 b.F, .int .i64 b.R, .int .i64 b.C, .slice B b.l.length cb] 24) := ⟨_, rfl⟩
  have hw01 : Below w.heap.size w w1 := by rw [hw1]; exact ((Below.refl _ w).alloc (Nat.le_refl _) _).alloc (by simp) _
  have hba : Blk w1 w.heap.size 24 (mtC a.F a.R a.C (.slice A a.l.length ca)) := by rw [hw1]; exact (Blk.new w _ _).alloc _
  have hbb : Blk w1 (w.heap.size + 1) 24 (mtC b.F b.R b.C (.slice B b.l.length cb)) := by rw [hw1]; exact Blk.new2 w _ _ _
  have HW1 := hideIt hw1
  have HW01 := hideIt hw01
  have HBA := hideIt hba
  have HBB := hideIt hbb
  have a0 := hba.cell 0
  have a1 := hba.cell 1
  have a2 := hba.cell 2
  have a3 := hba.cell 3
  have b0 := hbb.cell 0
  have b1 := hbb.cell 1
  have b2 := hbb.cell 2
  have b3 := hbb.cell 3
  clear hw1 hw01 hba hbb
  by_cases hF : a.F = b.F
  · have hq1 := int_neqF6 3 hF
    by_cases hR : a.R = b.R
    · have hq2 := int_neqF6 3 hR
      by_cases hC : a.C = b.C
      · have hq3 := int_neqF6 3 hC
        by_cases hL : a.l.length = b.l.length
        · have hq4 := int_neqF6 3 (a := ((a.l.length : Nat) : Int)) (b := ((b.l.length : Nat) : Int)) (by omega)
          have HE := hideIt (fun (h : ∀ i, i < a.l.length → a.l.getD i 0 = b.l.getD i 0) => show r = true by rw [HR.out]; exact decide_eq_true ⟨hF, hR, hC, list_eq_of hL h⟩)
          have HNE := hideIt (fun i (h : a.l.getD i 0 ≠ b.l.getD i 0) => show r = false by
            rw [HR.out]
            refine decide_eq_false (fun q => h ?_)
            rw [q.2.2.2])
          have HSA := hideIt (fun i (hi : i < a.l.length) => sl_getD hsa.sl hi)
          have HSB := hideIt (fun i (hi : i < b.l.length) => sl_getD hsb.sl hi)
          clear hF hR hC hsa hsb HR
          generalize a.l = la at *
          generalize b.l = lb at *
          generalize lb.length = n2 at *
          generalize la.length = n at *
          subst hL
          obtain ⟨f, hf⟩ : ∃ f : Nat → Int, f = fun i => la.getD i 0 := ⟨_, rfl⟩
          obtain ⟨gg, hg⟩ : ∃ f : Nat → Int, f = fun i => lb.getD i 0 := ⟨_, rfl⟩
          have HE2 := hideIt (show (∀ i, i < n → f i = gg i) → r = true from by rw [hf, hg]; exact HE.out)
          have HNE2 := hideIt (show ∀ i, f i ≠ gg i → r = false from by rw [hf, hg]; exact HNE.out)
          have HSA2 := hideIt (show ∀ i, i < n → ∃ b o, A = some ⟨b, o, none⟩ ∧ b < w.heap.size ∧ w.cell? ⟨b, o + i, none⟩ = some (.int .i64 (f i)) from by rw [hf]; exact HSA.out)
          have HSB2 := hideIt (show ∀ i, i < n → ∃ b o, B = some ⟨b, o, none⟩ ∧ b < w.heap.size ∧ w.cell? ⟨b, o + i, none⟩ = some (.int .i64 (gg i)) from by rw [hg]; exact HSB.out)
          clear HE HNE HSA HSB hf hg
          generalize a.F = Fa at *
          generalize a.R = Ra at *
          generalize a.C = Ca at *
          generalize b.F = Fb at *
          generalize b.R = Rb at *
          generalize b.C = Cb at *
          go_enter Tryd.func20, Tryd.ntmps20
          go_wp2_with fail
          rw [← HW1.out]
          go_wp2_with fail
          clear a0 a1 a2 b0 b1 b2 hq1 hq2 hq3 hq4
          go_loopg [5] n (fun g s5 wr => ∃ i : Nat, i + g = n ∧ s5 = .int .i64 (i : Int) ∧ Aside (Below w1.heap.size w1 wr ∧ ∀ k, k < i → f k = gg k))
          case atStart => exact ⟨0, by omega, rfl, Below.refl _ _, fun k h => absurd h (Nat.not_lt_zero _)⟩
          case round =>
            obtain ⟨i, hi, rfl, HI⟩ := hrel
            have HB := hideIt HI.out.1
            have HK := hideIt HI.out.2
            have a3 := (HBA.out.kept HB.out HBA.out.lt).cell 3
            have b3 := (HBB.out.kept HB.out HBB.out.lt).cell 3
            clear HI
            by_cases hlt : i < n
            · have hinc := inc_c 3 i (by omega)
              have hin : (i : Int) < (n : Int) := by omega
              obtain ⟨ba, oa, hA, hba, hca0⟩ := HSA2.out i hlt
              obtain ⟨bb, ob, hB, hbb, hcb0⟩ := HSB2.out i hlt
              subst hA hB
              have hlow := HW01.out.trans (HB.out.mono HW01.out.size)
              have hca := (hlow.cell (p := ⟨ba, oa + i, none⟩) hba).trans hca0
              have hcb := (hlow.cell (p := ⟨bb, ob + i, none⟩) hbb).trans hcb0
              have HNX := hideIt (HNE2.out i)
              have HKX := hideIt (fun (h : f i = gg i) k (hk : k < i + 1) => show f k = gg k by
                by_cases e : k = i
                · subst e; exact h
                · exact HK.out k (by omega))
              clear hca0 hcb0 hba hbb hlow HK HNE2
              generalize f i = x at *
              generalize gg i = y at *
              by_cases hxy : x = y
              · have hq := int_neqF6 3 hxy
                have HKY := hideIt (HKX.out hxy)
                clear hxy HNX HKX
                go_wp2_with fail
                go_quiet (fail)
                go_wp2_with fail
                go_roundg (gk - 1)
                case measure => omega
                case rel => exact ⟨i + 1, by omega, by go_num, below_drewN HB.out _, fun k h => HKY.out k h⟩
              · have hq := int_neqT6 3 hxy
                have HRF := hideIt (HNX.out hxy)
                clear hxy HNX HKX HE2
                go_wp2_with fail
                go_quiet (fail)
                go_wp2_with fail
                go_ret
                exact ⟨by rw [HRF.out]; rfl, HW01.out.trans ((below_drewN HB.out _).mono HW01.out.size)⟩
            · have hin : ¬ (i : Int) < (n : Int) := by omega
              have HRT := hideIt (HE2.out (fun k h1 => HK.out k (by omega)))
              clear HE2 HNE2
              go_wp2_with fail
              go_ret
              exact ⟨by rw [HRT.out]; rfl, HW01.out.trans (HB.out.mono HW01.out.size)⟩
        · have hq4 := int_neqT6 3 (a := ((a.l.length : Nat) : Int)) (b := ((b.l.length : Nat) : Int)) (by omega)
          have HRF := hideIt (show r = false by rw [HR.out]; exact decide_eq_false (fun q => hL (by rw [q.2.2.2])))
          clear hF hR hC hL hsa hsb HR
          generalize a.l.length = n at *
          generalize b.l.length = n2 at *
          generalize a.F = Fa at *
          generalize a.R = Ra at *
          generalize a.C = Ca at *
          generalize b.F = Fb at *
          generalize b.R = Rb at *
          generalize b.C = Cb at *
          go_enter Tryd.func20, Tryd.ntmps20
          go_wp2_with fail
          rw [← HW1.out]
          go_wp2_with fail
          go_ret
          exact ⟨by rw [HRF.out]; rfl, HW01.out⟩
      · have hq3 := int_neqT6 3 hC
        have HRF := hideIt (show r = false by rw [HR.out]; exact decide_eq_false (fun q => hC q.2.2.1))
        clear hF hR hC hsa hsb HR
        generalize a.l.length = n at *
        generalize b.l.length = n2 at *
        generalize a.F = Fa at *
        generalize a.R = Ra at *
        generalize a.C = Ca at *
        generalize b.F = Fb at *
        generalize b.R = Rb at *
        generalize b.C = Cb at *
        go_enter Tryd.func20, Tryd.ntmps20
        go_wp2_with fail
        rw [← HW1.out]
        go_wp2_with fail
        go_ret
        exact ⟨by rw [HRF.out]; rfl, HW01.out⟩
    · have hq2 := int_neqT6 3 hR
      have HRF := hideIt (show r = false by rw [HR.out]; exact decide_eq_false (fun q => hR q.2.1))
      clear hF hR hsa hsb HR
      generalize a.l.length = n at *
      generalize b.l.length = n2 at *
      generalize a.F = Fa at *
      generalize a.R = Ra at *
      generalize a.C = Ca at *
      generalize b.F = Fb at *
      generalize b.R = Rb at *
      generalize b.C = Cb at *
      go_enter Tryd.func20, Tryd.ntmps20
      go_wp2_with fail
      rw [← HW1.out]
      go_wp2_with fail
      go_ret
      exact ⟨by rw [HRF.out]; rfl, HW01.out⟩
  · have hq1 := int_neqT6 3 hF
    have HRF := hideIt (show r = false by rw [HR.out]; exact decide_eq_false (fun q => hF q.1))
    clear hF hsa hsb HR
    generalize a.l.length = n at *
    generalize b.l.length = n2 at *
    generalize a.F = Fa at *
    generalize a.R = Ra at *
    generalize a.C = Ca at *
    generalize b.F = Fb at *
    generalize b.R = Rb at *
    generalize b.C = Cb at *
    go_enter Tryd.func20, Tryd.ntmps20
    go_wp2_with fail
    rw [← HW1.out]
    go_wp2_with fail
    go_ret
    exact ⟨by rw [HRF.out]; rfl, HW01.out⟩

set_option maxHeartbeats 1000000 in
theorem ints_any (la lb : List Int) (A B : Option Addr) (ca cb : Nat) (w : World) (hsa : Sl w w.heap.size A 1 la.length (la.map iv)) (hsb : Sl w w.heap.size B 1 lb.length (lb.map iv)) (hm : la.length ≤ 100000) :
    Calls Tryd.prog 27 #[.slice A la.length ca, .slice B lb.length cb] w fun e w' => e = .returned (.bool (decide (la = lb))) ∧ Below w.heap.size w w' := by
  obtain ⟨r, hr⟩ : ∃ r, r = decide (la = lb) := ⟨_, rfl⟩
  rw [← hr]
  have HR := hideIt hr
  clear hr
  by_cases hL : la.length = lb.length
  · have hq4 := int_neqF6 3 (a := ((la.length : Nat) : Int)) (b := ((lb.length : Nat) : Int)) (by omega)
    have HE := hideIt (fun (h : ∀ i, i < la.length → la.getD i 0 = lb.getD i 0) => show r = true by rw [HR.out]; exact decide_eq_true (list_eq_of hL h))
    have HNE := hideIt (fun i (h : la.getD i 0 ≠ lb.getD i 0) => show r = false by
      rw [HR.out]
      refine decide_eq_false (fun q => h ?_)
      rw [q])
    have HSA := hideIt (fun i (hi : i < la.length) => sl_getD hsa hi)
    have HSB := hideIt (fun i (hi : i < lb.length) => sl_getD hsb hi)
    clear hsa hsb HR
    generalize lb.length = n2 at *
    generalize la.length = n at *
    subst hL
    obtain ⟨f, hf⟩ : ∃ f : Nat → Int, f = fun i => la.getD i 0 := ⟨_, rfl⟩
    obtain ⟨gg, hg⟩ : ∃ f : Nat → Int, f = fun i => lb.getD i 0 := ⟨_, rfl⟩
    have HE2 := hideIt (show (∀ i, i < n → f i = gg i) → r = true from by rw [hf, hg]; exact HE.out)
    have HNE2 := hideIt (show ∀ i, f i ≠ gg i → r = false from by rw [hf, hg]; exact HNE.out)
    have HSA2 := hideIt (show ∀ i, i < n → ∃ b o, A = some ⟨b, o, none⟩ ∧ b < w.heap.size ∧ w.cell? ⟨b, o + i, none⟩ = some (.int .i64 (f i)) from by rw [hf]; exact HSA.out)
    have HSB2 := hideIt (show ∀ i, i < n → ∃ b o, B = some ⟨b, o, none⟩ ∧ b < w.heap.size ∧ w.cell? ⟨b, o + i, none⟩ = some (.int .i64 (gg i)) from by rw [hg]; exact HSB.out)
    clear HE HNE HSA HSB hf hg
    go_enter Tryd.func27, Tryd.ntmps27
    go_wp2_with fail
    clear hq4
    go_loopg [5] n (fun g s5 wr => ∃ i : Nat, i + g = n ∧ s5 = .int .i64 (i : Int) ∧ Aside (Below w.heap.size w wr ∧ ∀ k, k < i → f k = gg k))
    case atStart => exact ⟨0, by omega, rfl, Below.refl _ _, fun k h => absurd h (Nat.not_lt_zero _)⟩
    case round =>
      obtain ⟨i, hi, rfl, HI⟩ := hrel
      have HB := hideIt HI.out.1
      have HK := hideIt HI.out.2
      clear HI
      by_cases hlt : i < n
      · have hinc := inc_c 3 i (by omega)
        have hin : (i : Int) < (n : Int) := by omega
        obtain ⟨ba, oa, hA, hba, hca0⟩ := HSA2.out i hlt
        obtain ⟨bb, ob, hB, hbb, hcb0⟩ := HSB2.out i hlt
        subst hA hB
        have hca := (HB.out.cell (p := ⟨ba, oa + i, none⟩) hba).trans hca0
        have hcb := (HB.out.cell (p := ⟨bb, ob + i, none⟩) hbb).trans hcb0
        have HNX := hideIt (HNE2.out i)
        have HKX := hideIt (fun (h : f i = gg i) k (hk : k < i + 1) => show f k = gg k by
          by_cases e : k = i
          · subst e; exact h
          · exact HK.out k (by omega))
        clear hca0 hcb0 hba hbb HK HNE2
        generalize f i = x at *
        generalize gg i = y at *
        by_cases hxy : x = y
        · have hq := int_neqF6 3 hxy
          have HKY := hideIt (HKX.out hxy)
          clear hxy HNX HKX
          go_wp2_with fail
          go_quiet (fail)
          go_wp2_with fail
          go_roundg (gk - 1)
          case measure => omega
          case rel => exact ⟨i + 1, by omega, by go_num, below_drewN HB.out _, fun k h => HKY.out k h⟩
        · have hq := int_neqT6 3 hxy
          have HRF := hideIt (HNX.out hxy)
          clear hxy HNX HKX HE2
          go_wp2_with fail
          go_quiet (fail)
          go_wp2_with fail
          go_ret
          exact ⟨by rw [HRF.out]; rfl, below_drewN HB.out _⟩
      · have hin : ¬ (i : Int) < (n : Int) := by omega
        have HRT := hideIt (HE2.out (fun k h1 => HK.out k (by omega)))
        clear HE2 HNE2
        go_wp2_with fail
        go_ret
        exact ⟨by rw [HRT.out]; rfl, HB.out⟩
  · have hq4 := int_neqT6 3 (a := ((la.length : Nat) : Int)) (b := ((lb.length : Nat) : Int)) (by omega)
    have HRF := hideIt (show r = false by rw [HR.out]; exact decide_eq_false (fun q => hL (by rw [q])))
    clear hL hsa hsb HR
    generalize la.length = n at *
    generalize lb.length = n2 at *
    go_enter Tryd.func27, Tryd.ntmps27
    go_wp2_with fail
    go_ret
    exact ⟨by rw [HRF.out]; rfl, Below.refl _ _⟩

set_option maxHeartbeats 400000 in
theorem of_any (F R C : Int) (A : Option Addr) (n c : Nat) (w : World) :
    Calls Tryd.prog 34 #[.int .i64 F, .int .i64 R, .int .i64 C, .slice A n c] w fun e w' => e = .returned (mtV F R C (.slice A n c)) ∧ Below w.heap.size w w' := by
  have HB0 := hideIt (Blk.new w 24 (mtC 0 0 0 (.slice none 0 0)))
  have HW0 := hideIt (below_new w (.cells (mtC 0 0 0 (.slice none 0 0)).toArray 24))
  go_enter Tryd.func34, Tryd.ntmps34
  go_wp2_with ((with_reducible refine at_store ?_); refine wpList_stM rfl (.tmp 8) (.tmp 13) rfl w.heap.size _ _ _ _ _ _ _ _ rfl rfl rfl HB0.out ?_; intro w3 HT3 HB3)
  exact bodyPost_ret (ret_blk rfl HB3.out _ rfl Tryd.underlying24 rfl isz4) rfl ⟨rfl, HT3.out.below HW0.out (Nat.le_refl _)⟩

/-- What small answers. -/
def smallM (a : Mt) : Bool := decide (a.R ≤ 12 ∧ a.C ≤ 12 ∧ (a.l.length : Int) ≤ 200)
set_option maxHeartbeats 1000000 in
theorem small_any (a : Mt) (A : Option Addr) (c : Nat) (w : World) :
    Calls Tryd.prog 10 #[mtV a.F a.R a.C (.slice A a.l.length c)] w fun e w' => e = .returned (.bool (smallM a)) ∧ Below w.heap.size w w' := by
  have HB0 := hideIt (Blk.new w 24 (mtC a.F a.R a.C (.slice A a.l.length c)))
  have f1 := HB0.out.cell 1
  have f2 := HB0.out.cell 2
  have f3 := HB0.out.cell 3
  unfold smallM
  generalize a.l.length = n at *
  generalize a.F = F at *
  generalize a.R = R at *
  generalize a.C = C at *
  by_cases h1 : R ≤ 12
  · have d1 : decide (R ≤ 12) = true := decide_eq_true h1
    by_cases h2 : C ≤ 12
    · have d2 : decide (C ≤ 12) = true := decide_eq_true h2
      by_cases h3 : (n : Int) ≤ 200
      · have d3 : decide ((n : Int) ≤ 200) = true := decide_eq_true h3
        rw [show decide (R ≤ 12 ∧ C ≤ 12 ∧ (n : Int) ≤ 200) = true from decide_eq_true ⟨h1, h2, h3⟩]
        clear h1 h2
        go_enter Tryd.func10, Tryd.ntmps10
        go_wp2_with fail
        go_ret
        exact ⟨rfl, below_new w _⟩
      · have d3 : decide ((n : Int) ≤ 200) = false := decide_eq_false h3
        rw [show decide (R ≤ 12 ∧ C ≤ 12 ∧ (n : Int) ≤ 200) = false from decide_eq_false (fun h => h3 h.2.2)]
        clear h1 h2
        go_enter Tryd.func10, Tryd.ntmps10
        go_wp2_with fail
        go_ret
        exact ⟨rfl, below_new w _⟩
    · have d2 : decide (C ≤ 12) = false := decide_eq_false h2
      rw [show decide (R ≤ 12 ∧ C ≤ 12 ∧ (n : Int) ≤ 200) = false from decide_eq_false (fun h => h2 h.2.1)]
      clear h1 h2
      go_enter Tryd.func10, Tryd.ntmps10
      go_wp2_with fail
      go_ret
      exact ⟨by rfl, below_new w _⟩
  · have d1 : decide (R ≤ 12) = false := decide_eq_false h1
    rw [show decide (R ≤ 12 ∧ C ≤ 12 ∧ (n : Int) ≤ 200) = false from decide_eq_false (fun h => h1 h.1)]
    clear h1
    go_enter Tryd.func10, Tryd.ntmps10
    go_wp2_with fail
    go_ret
    exact ⟨by rfl, below_new w _⟩

end Go.Proofs.YtodmcojcmihooaaDoor
