/-
  The reference's Valid, walked.
-/
import Derived.Test.YtodmcojcmihooaaDoorRefZ
namespace Go.Proofs.YtodmcojcmihooaaDoor
open Go.RowKit
set_option linter.unusedVariables false

theorem vd_zero {F : Int} (h : ¬ vd F 0 = true) : F ≠ 8 ∧ F ≠ 16 := by
  constructor
  · rintro rfl; exact h (vd_true (m := 8) (a := 0) (Or.inl rfl) (by decide))
  · rintro rfl; exact h (vd_true (m := 16) (a := 0) (Or.inr rfl) (by decide))
theorem vd_iff {m : Nat} (hm : Fm m) (x : Int) : vd (m : Int) x = true ↔ 0 ≤ x ∧ x < ((2 ^ m : Nat) : Int) := by
  constructor
  · intro h
    obtain ⟨k, y, e1, e2, _, e3⟩ := vd_spec h
    obtain rfl : m = k := by omega
    omega
  · rintro ⟨h1, h2⟩
    obtain ⟨y, rfl⟩ := Int.eq_ofNat_of_zero_le h1
    exact vd_true hm (by omega)

set_option maxHeartbeats 2000000 in
theorem rvalid_lit (m : Nat) (hm : Fm m) (R C : Int) (l : List Int) (A : Option Addr) (c : Nat) (w : World) (hs : Sl w w.heap.size A 1 l.length (l.map iv))
    (hn8 : ((m : Int) = 8 ∧ binOp .neq 3 (.int .i64 (m : Int)) (.int .i64 8) = pure (.bool false)) ∨ (binOp .neq 3 (.int .i64 (m : Int)) (.int .i64 8) = pure (.bool true) ∧ binOp .neq 3 (.int .i64 (m : Int)) (.int .i64 16) = pure (.bool false))) :
    Calls Tryd.prog 22 #[mtV (m : Int) R C (.slice A l.length c)] w fun e w' => e = .returned (.bool (vM ⟨(m : Int), R, C, l⟩)) ∧ Below w.heap.size w w' := by
  obtain ⟨bb, hbb⟩ : ∃ bb, bb = vM ⟨(m : Int), R, C, l⟩ := ⟨_, rfl⟩
  rw [← hbb]
  have HB := hideIt hbb
  have HS := hideIt hs
  have HM := hideIt hm
  have hv0 : vd (m : Int) 0 = true := vd_true (a := 0) hm (Nat.two_pow_pos m)
  by_cases h2 : isz R = true
  · by_cases h3 : isz C = true
    · obtain ⟨r, rfl, hr⟩ := isz_spec h2
      obtain ⟨k, rfl, hk⟩ := isz_spec h3
      have hrk : r * k ≤ 32 * 32 := Nat.mul_le_mul hr hk
      have hmul := nmul 3 r k (by omega)
      have d1 : decide ((r : Int) < 0) = false := decide_eq_false (by omega)
      have d2 : decide ((k : Int) < 0) = false := decide_eq_false (by omega)
      have d3 : decide ((32 : Int) < (r : Int)) = false := decide_eq_false (by omega)
      have d4 : decide ((32 : Int) < (k : Int)) = false := decide_eq_false (by omega)
      by_cases h4 : l.length = r * k
      · have hne := neqF 3 (r * k)
        rw [h4] at hs ⊢
        have HL := hideIt h4
        have H1 := hideIt hv0
        have H2 := hideIt h2
        have H3 := hideIt h3
        have hshl := nshl_one 3 m (fm_le hm)
        obtain ⟨n, hn⟩ : ∃ n, n = r * k := ⟨_, rfl⟩
        rw [← hn] at hne hmul hrk ⊢
        have HN := hideIt hn
        obtain ⟨q, hq⟩ : ∃ q, q = 2 ^ m := ⟨_, rfl⟩
        rw [← hq] at hshl
        have HQ := hideIt hq
        clear hs hv0 h2 h3 h4 hn hbb hm hq
        rcases hn8 with ⟨e8, hn8⟩ | ⟨hn8, hn16⟩
        all_goals
          try clear e8
          go_enter Tryd.func22, Tryd.ntmps22
          go_wp2_with fail
          go_loopg [3] n (fun g s3 wr => ∃ j d : Nat, j + g = n ∧ s3 = .int .i64 (j : Int) ∧ wr = (w.alloc (.cells #[.int .i64 (m : Int), .int .i64 (r : Int), .int .i64 (k : Int), .slice A n c] 24)).drewN d ∧ Aside (∀ x ∈ l.take j, vd (m : Int) x = true))
          case atStart => exact ⟨0, 0, by omega, rfl, rfl, fun x hx => by simp at hx⟩
          case round =>
            obtain ⟨j, d, hj, rfl, rfl, HI⟩ := hrel
            by_cases hlt : j < n
            · have hjl : j < l.length := by rw [HL.out, ← HN.out]; exact hlt
              obtain ⟨b, o, hA, hb, hc0⟩ := HS.out.num hjl
              subst hA
              have hcell := ((below_new w (.cells #[.int .i64 (m : Int), .int .i64 (r : Int), .int .i64 (k : Int), .slice (some ⟨b, o, none⟩) n c] 24)).cell (p := ⟨b, o + j, none⟩) hb).trans hc0
              have HT := hideIt (take_snoc l j hjl)
              have HMM := hideIt (List.getElem_mem hjl)
              have hinc := inc_c 3 j (by omega)
              have hji : (j : Int) < (n : Int) := by omega
              have HV := hideIt (vd_iff HM.out l[j])
              rw [← HQ.out] at HV
              clear hc0 hb
              generalize l[j] = x at *
              clear hjl
              by_cases hx0 : 0 ≤ x
              · have dx0 : decide (x < 0) = false := decide_eq_false (by omega)
                by_cases hxq : x < (q : Int)
                · have dxq : decide ((q : Int) ≤ x) = false := decide_eq_false (by omega)
                  have hxq2 : ¬ (q : Int) ≤ x := by omega
                  have HX := hideIt (HV.out.2 ⟨hx0, hxq⟩)
                  go_wp2_with fail
                  go_quiet (fail)
                  go_wp2_with fail
                  go_roundg (gk - 1)
                  case measure => omega
                  case rel =>
                    refine ⟨j + 1, _, by omega, by go_num, rfl, ?_⟩
                    show ∀ y ∈ l.take (j + 1), vd (m : Int) y = true
                    rw [HT.out]
                    intro y hy
                    rcases List.mem_append.1 hy with h | h
                    · exact HI.out y h
                    · rw [List.mem_singleton] at h; rw [h]; exact HX.out
                · have dxq : decide ((q : Int) ≤ x) = true := decide_eq_true (by omega)
                  have hxq2 : (q : Int) ≤ x := by omega
                  have HE := hideIt (HB.out.trans (vM_x (R := r) (C := k) HMM.out (fun h => hxq (HV.out.1 h).2)))
                  clear hxq
                  go_wp2_with fail
                  go_quiet (fail)
                  go_wp2_with fail
                  go_ret
                  exact ⟨by rw [HE.out]; rfl, below_drewN (below_drewN (below_new w _) _) _⟩
              · have dx0 : decide (x < 0) = true := decide_eq_true (by omega)
                have hx1 : x < 0 := by omega
                have HE := hideIt (HB.out.trans (vM_x (R := r) (C := k) HMM.out (fun h => hx0 (HV.out.1 h).1)))
                clear hx0
                go_wp2_with fail
                go_quiet (fail)
                go_wp2_with fail
                go_ret
                exact ⟨by rw [HE.out]; rfl, below_drewN (below_drewN (below_new w _) _) _⟩
            · have HE := hideIt (HB.out.trans (vM_all (R := r) (C := k) H1.out H2.out H3.out (by rw [HL.out]; push_cast; rfl) (fun x hx => by
                have := HI.out x
                rw [List.take_of_length_le (by rw [HL.out, ← HN.out]; omega)] at this
                exact this hx)))
              have hji : ¬ (j : Int) < (n : Int) := by omega
              go_wp2_with fail
              go_ret
              exact ⟨by rw [HE.out]; rfl, below_drewN (below_new w _) _⟩
      · have hne := neqT 3 h4
        have HE := hideIt (hbb.trans (vM_n (fun h => h4 (by exact_mod_cast h))))
        generalize l.length = q at *
        generalize r * k = n at *
        clear hs h2 h3 h4 hbb hv0 hm
        rcases hn8 with ⟨e8, hn8⟩ | ⟨hn8, hn16⟩
        all_goals
          try clear e8
          go_enter Tryd.func22, Tryd.ntmps22
          go_wp2_with fail
          go_ret
          exact ⟨by rw [HE.out]; rfl, below_new w _⟩
    · obtain ⟨r, rfl, hr⟩ := isz_spec h2
      have d1 : decide ((r : Int) < 0) = false := decide_eq_false (by omega)
      have d3 : decide ((32 : Int) < (r : Int)) = false := decide_eq_false (by omega)
      have HE := hideIt (hbb.trans (vM_C h3))
      have hC : C < 0 ∨ (0 ≤ C ∧ 32 < C) := by
        rcases Int.lt_or_le C 0 with h | h
        · exact .inl h
        · refine .inr ⟨h, ?_⟩
          rcases Int.lt_or_le 32 C with h1 | h1
          · exact h1
          · exact absurd (by unfold isz; exact decide_eq_true ⟨h, h1⟩) h3
      generalize l.length = q at *
      clear hs h2 h3 hbb hv0 hm
      rcases hC with hC | ⟨hC0, hC⟩
      · have d2 : decide (C < 0) = true := decide_eq_true hC
        rcases hn8 with ⟨e8, hn8⟩ | ⟨hn8, hn16⟩
        all_goals
          try clear e8
          go_enter Tryd.func22, Tryd.ntmps22
          go_wp2_with fail
          go_ret
          exact ⟨by rw [HE.out]; rfl, below_new w _⟩
      · have d2 : decide (C < 0) = false := decide_eq_false (by omega)
        have d4 : decide ((32 : Int) < C) = true := decide_eq_true hC
        rcases hn8 with ⟨e8, hn8⟩ | ⟨hn8, hn16⟩
        all_goals
          try clear e8
          go_enter Tryd.func22, Tryd.ntmps22
          go_wp2_with fail
          go_ret
          exact ⟨by rw [HE.out]; rfl, below_new w _⟩
  · have HE := hideIt (hbb.trans (vM_R h2))
    have hR : R < 0 ∨ (0 ≤ R ∧ 32 < R) := by
      rcases Int.lt_or_le R 0 with h | h
      · exact .inl h
      · refine .inr ⟨h, ?_⟩
        rcases Int.lt_or_le 32 R with h1 | h1
        · exact h1
        · exact absurd (by unfold isz; exact decide_eq_true ⟨h, h1⟩) h2
    generalize l.length = q at *
    clear hs h2 hbb hv0 hm
    rcases hR with hR | ⟨hR0, hR⟩
    · have d2 : decide (R < 0) = true := decide_eq_true hR
      rcases hn8 with ⟨e8, hn8⟩ | ⟨hn8, hn16⟩
      all_goals
        try clear e8
        go_enter Tryd.func22, Tryd.ntmps22
        go_wp2_with fail
        go_ret
        exact ⟨by rw [HE.out]; rfl, below_new w _⟩
    · have d2 : decide (R < 0) = false := decide_eq_false (by omega)
      have d4 : decide ((32 : Int) < R) = true := decide_eq_true hR
      by_cases hC0 : C < 0
      · have d5 : decide (C < 0) = true := decide_eq_true hC0
        rcases hn8 with ⟨e8, hn8⟩ | ⟨hn8, hn16⟩
        all_goals
          try clear e8
          go_enter Tryd.func22, Tryd.ntmps22
          go_wp2_with fail
          go_ret
          exact ⟨by rw [HE.out]; rfl, below_new w _⟩
      · have d5 : decide (C < 0) = false := decide_eq_false hC0
        rcases hn8 with ⟨e8, hn8⟩ | ⟨hn8, hn16⟩
        all_goals
          try clear e8
          go_enter Tryd.func22, Tryd.ntmps22
          go_wp2_with fail
          go_ret
          exact ⟨by rw [HE.out]; rfl, below_new w _⟩

set_option maxHeartbeats 400000 in
theorem rvalid6_any (F R C : Int) (l : List Int) (A : Option Addr) (c : Nat) (w : World) (hs : Sl w w.heap.size A 1 l.length (l.map iv)) :
    Calls Tryd.prog 22 #[mtV F R C (.slice A l.length c)] w fun e w' => e = .returned (.bool (vM ⟨F, R, C, l⟩)) ∧ Below w.heap.size w w' := by
  by_cases h1 : vd F 0 = true
  · obtain ⟨m, x, rfl, _, hm, _⟩ := vd_spec h1
    refine rvalid_lit m hm R C l A c w hs ?_
    rcases hm with rfl | rfl
    · exact .inl ⟨rfl, int_neqF6 _ rfl⟩
    · exact .inr ⟨int_neqT6 _ (by decide), int_neqF6 _ rfl⟩
  · obtain ⟨h8, h16⟩ := vd_zero h1
    rw [vM_F h1]
    have hn8 := int_neqT6 3 h8
    have hn16 := int_neqT6 3 h16
    clear h1 h8 h16 hs
    generalize l.length = q at *
    go_enter Tryd.func22, Tryd.ntmps22
    go_wp2_with fail
    go_ret
    exact ⟨rfl, below_new w _⟩
theorem rvalid_b {a : Mt} {A : Option Addr} {c : Nat} {w : World} (hs : MIn w a A c) (W : World) (hW : Below w.heap.size w W) :
    Calls Tryd.prog 22 #[mtV a.F a.R a.C (.slice A a.l.length c)] W fun e w' => e = .returned (.bool (vM a)) ∧ Below W.heap.size W w' :=
  rvalid6_any a.F a.R a.C a.l A c W (hs.keep hW).sl

end Go.Proofs.YtodmcojcmihooaaDoor
