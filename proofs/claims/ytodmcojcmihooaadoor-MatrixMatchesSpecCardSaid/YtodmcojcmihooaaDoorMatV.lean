/-
  The smallest functions of layer 6, walked: isSize, Valid.
-/
import Derived.Test.YtodmcojcmihooaaDoorMatM
namespace Go.Proofs.YtodmcojcmihooaaDoor
open Go.RowKit
set_option linter.unusedVariables false

set_option maxHeartbeats 400000 in
theorem isz_any (n : Int) (w : World) : Calls Tryd.prog 40 #[.int .i64 n] w fun e w' => e = .returned (.bool (isz n)) ∧ w = w' := by
  unfold isz
  by_cases h0 : 0 ≤ n
  · by_cases h1 : n ≤ 32
    · rw [decide_eq_true ⟨h0, h1⟩]
      go_enter Tryd.func40, Tryd.ntmps40
      go_wp2_with fail
      go_ret
      exact ⟨rfl, rfl⟩
    · rw [decide_eq_false (fun h => h1 h.2)]
      go_enter Tryd.func40, Tryd.ntmps40
      go_wp2_with fail
      go_ret
      exact ⟨rfl, rfl⟩
  · rw [decide_eq_false (fun h => h0 h.1)]
    go_enter Tryd.func40, Tryd.ntmps40
    go_wp2_with fail
    go_ret
    exact ⟨rfl, rfl⟩

theorem vM_F {F R C : Int} {l : List Int} (h : ¬ vd F 0 = true) : vM ⟨F, R, C, l⟩ = false := by unfold vM; simp [h]
theorem vM_R {F R C : Int} {l : List Int} (h : ¬ isz R = true) : vM ⟨F, R, C, l⟩ = false := by unfold vM; simp [h]
theorem vM_C {F R C : Int} {l : List Int} (h : ¬ isz C = true) : vM ⟨F, R, C, l⟩ = false := by unfold vM; simp [h]
theorem vM_n {F R C : Int} {l : List Int} (h : ¬ (l.length : Int) = R * C) : vM ⟨F, R, C, l⟩ = false := by unfold vM; simp [h]
theorem vM_x {F R C : Int} {l : List Int} {x : Int} (hx : x ∈ l) (h : ¬ vd F x = true) : vM ⟨F, R, C, l⟩ = false := by
  unfold vM
  have : l.all (vd F) = false := by
    rw [Bool.eq_false_iff]
    intro h2
    exact h (List.all_eq_true.1 h2 x hx)
  simp [this]
theorem vM_all {F R C : Int} {l : List Int} (h1 : vd F 0 = true) (h2 : isz R = true) (h3 : isz C = true) (h4 : (l.length : Int) = R * C) (h5 : ∀ x ∈ l, vd F x = true) : vM ⟨F, R, C, l⟩ = true := by
  unfold vM
  simp only [h1, h2, h3, h4, Bool.true_and, decide_true]
  exact List.all_eq_true.2 h5

set_option maxHeartbeats 1000000 in
theorem mvalid_any (F R C : Int) (l : List Int) (A : Option Addr) (c : Nat) (w : World) (hT : Tabs w) (hs : Sl w w.heap.size A 1 l.length (l.map iv)) :
    Calls Tryd.prog 21 #[mtV F R C (.slice A l.length c)] w fun e w' => e = .returned (.bool (vM ⟨F, R, C, l⟩)) ∧ Below w.heap.size w w' := by
  have HV := hideIt (fun x W (hW : Below w.heap.size w W) => valid_any F x W (hT.keep hW))
  have HZ := hideIt (fun x W => isz_any x W)
  obtain ⟨bb, hbb⟩ : ∃ bb, bb = vM ⟨F, R, C, l⟩ := ⟨_, rfl⟩
  rw [← hbb]
  have HB := hideIt hbb
  have HS := hideIt hs
  by_cases h1 : vd F 0 = true
  · by_cases h2 : isz R = true
    · by_cases h3 : isz C = true
      · obtain ⟨r, rfl, hr⟩ := isz_spec h2
        obtain ⟨k, rfl, hk⟩ := isz_spec h3
        have hrk : r * k ≤ 32 * 32 := Nat.mul_le_mul hr hk
        have hmul := nmul 3 r k (by omega)
        by_cases h4 : l.length = r * k
        · have hne := neqF 3 (r * k)
          rw [h4] at hs ⊢
          have HL := hideIt h4
          have H1 := hideIt h1
          have H2 := hideIt h2
          have H3 := hideIt h3
          obtain ⟨n, hn⟩ : ∃ n, n = r * k := ⟨_, rfl⟩
          rw [← hn] at hne hmul hrk ⊢
          have HN := hideIt hn
          clear hs h1 h2 h3 h4 hn hbb hT hr hk
          go_enter Tryd.func21, Tryd.ntmps21
          go_wp2_with (first
            | (go_at_call 41; refine (HV.out _ _ (below_new w _)).mono ?_; rw [H1.out]; rintro e w' ⟨rfl, rfl⟩)
            | (go_at_call 40; refine (HZ.out _ _).mono ?_; (first | rw [H2.out] | rw [H3.out]); rintro e w' ⟨rfl, rfl⟩))
          go_loopg [35] n (fun g s35 wr => ∃ j : Nat, j + g = n ∧ s35 = .int .i64 (j : Int) ∧ wr = w.alloc (.cells #[.int .i64 F, .int .i64 (r : Int), .int .i64 (k : Int), .slice A n c] 24) ∧ Aside (∀ x ∈ l.take j, vd F x = true))
          case atStart => exact ⟨0, by omega, rfl, rfl, fun x hx => by simp at hx⟩
          case round =>
            obtain ⟨j, hj, rfl, rfl, HI⟩ := hrel
            by_cases hlt : j < n
            · have hjl : j < l.length := by rw [HL.out, ← HN.out]; exact hlt
              obtain ⟨b, o, hA, hb, hc0⟩ := HS.out.num hjl
              subst hA
              have hcell := ((below_new w (.cells #[.int .i64 F, .int .i64 (r : Int), .int .i64 (k : Int), .slice (some ⟨b, o, none⟩) n c] 24)).cell (p := ⟨b, o + j, none⟩) hb).trans hc0
              have HT := hideIt (take_snoc l j hjl)
              have HM := hideIt (List.getElem_mem hjl)
              have hinc := inc_c 3 j (by omega)
              have hji : (j : Int) < (n : Int) := by omega
              clear hc0 hb
              generalize l[j] = x at *
              clear hjl
              by_cases hx : vd F x = true
              · have HX := hideIt hx
                clear hx
                go_wp2_with (go_at_call 41; refine (HV.out _ _ (below_new w _)).mono ?_; rw [HX.out]; rintro e w' ⟨rfl, rfl⟩)
                go_roundg (gk - 1)
                case measure => omega
                case rel =>
                  refine ⟨j + 1, by omega, by go_num, rfl, ?_⟩
                  show ∀ y ∈ l.take (j + 1), vd F y = true
                  rw [HT.out]
                  intro y hy
                  rcases List.mem_append.1 hy with h | h
                  · exact HI.out y h
                  · rw [List.mem_singleton] at h; rw [h]; exact HX.out
              · have HE := hideIt (HB.out.trans (vM_x (R := r) (C := k) HM.out hx))
                have HX := hideIt (Bool.eq_false_iff.2 hx)
                clear hx
                go_wp2_with (go_at_call 41; refine (HV.out _ _ (below_new w _)).mono ?_; rw [HX.out]; rintro e w' ⟨rfl, rfl⟩)
                go_ret
                exact ⟨by rw [HE.out]; rfl, below_new w _⟩
            · have HE := hideIt (HB.out.trans (vM_all (R := r) (C := k) H1.out H2.out H3.out (by rw [HL.out]; push_cast; rfl) (fun x hx => by
                have := HI.out x
                rw [List.take_of_length_le (by rw [HL.out, ← HN.out]; omega)] at this
                exact this hx)))
              have hji : ¬ (j : Int) < (n : Int) := by omega
              go_wp2_with fail
              go_ret
              exact ⟨by rw [HE.out]; rfl, below_new w _⟩
        · have hne := neqT 3 h4
          have HE := hideIt (hbb.trans (vM_n (fun h => h4 (by exact_mod_cast h))))
          have H1 := hideIt h1
          have H2 := hideIt h2
          have H3 := hideIt h3
          generalize l.length = q at *
          generalize r * k = n at *
          clear hs h1 h2 h3 h4 hbb hT hr hk
          go_enter Tryd.func21, Tryd.ntmps21
          go_wp2_with (first
            | (go_at_call 41; refine (HV.out _ _ (below_new w _)).mono ?_; rw [H1.out]; rintro e w' ⟨rfl, rfl⟩)
            | (go_at_call 40; refine (HZ.out _ _).mono ?_; (first | rw [H2.out] | rw [H3.out]); rintro e w' ⟨rfl, rfl⟩))
          go_ret
          exact ⟨by rw [HE.out]; rfl, below_new w _⟩
      · have HE := hideIt (hbb.trans (vM_C h3))
        have H1 := hideIt h1
        have H2 := hideIt h2
        have H3 := hideIt (Bool.eq_false_iff.2 h3)
        clear hs h1 h2 h3 hbb hT
        go_enter Tryd.func21, Tryd.ntmps21
        go_wp2_with (first
            | (go_at_call 41; refine (HV.out _ _ (below_new w _)).mono ?_; rw [H1.out]; rintro e w' ⟨rfl, rfl⟩)
            | (go_at_call 40; refine (HZ.out _ _).mono ?_; (first | rw [H2.out] | rw [H3.out]); rintro e w' ⟨rfl, rfl⟩))
        go_ret
        exact ⟨by rw [HE.out]; rfl, below_new w _⟩
    · have HE := hideIt (hbb.trans (vM_R h2))
      have H1 := hideIt h1
      have H2 := hideIt (Bool.eq_false_iff.2 h2)
      clear hs h1 h2 hbb hT
      go_enter Tryd.func21, Tryd.ntmps21
      go_wp2_with (first
            | (go_at_call 41; refine (HV.out _ _ (below_new w _)).mono ?_; rw [H1.out]; rintro e w' ⟨rfl, rfl⟩)
            | (go_at_call 40; refine (HZ.out _ _).mono ?_; rw [H2.out]; rintro e w' ⟨rfl, rfl⟩))
      go_ret
      exact ⟨by rw [HE.out]; rfl, below_new w _⟩
  · have HE := hideIt (hbb.trans (vM_F h1))
    have H1 := hideIt (Bool.eq_false_iff.2 h1)
    clear hs h1 hbb hT
    go_enter Tryd.func21, Tryd.ntmps21
    go_wp2_with (go_at_call 41; refine (HV.out _ _ (below_new w _)).mono ?_; rw [H1.out]; rintro e w' ⟨rfl, rfl⟩)
    go_ret
    exact ⟨by rw [HE.out]; rfl, below_new w _⟩

end Go.Proofs.YtodmcojcmihooaaDoor
