/-
  The reference's better and Same, walked.
-/
import Derived.Test.YtklngodlijiccaaDoorRepT
namespace Go.Proofs.YtklngodlijiccaaDoor
open Go.RowKit
set_option linter.unusedVariables false
set_option linter.unusedSimpArgs false

theorem Sl.tt {w : World} {B : Nat} {A : Option Addr} {l : List (Nat × Nat)} (h : Sl w B A 2 l.length (tcs l)) {k : Nat} (hk : k < l.length) : ∃ b off, A = some ⟨b, off, none⟩ ∧ b < B ∧ w.cell? ⟨b, off + k * 2, none⟩ = some (.int .i64 ((l[k].1 : Nat) : Int)) ∧ w.cell? ⟨b, off + k * 2 + 1, none⟩ = some (.int .i64 ((l[k].2 : Nat) : Int)) := by
  have h2 : Sl w B A 2 (zt l).length (zcs (zt l)) := by rw [zcs_tcs, List.length_map]; exact h
  obtain ⟨b, off, e, hb, h3, h4⟩ := h2.zat (k := k) (by rw [List.length_map]; exact hk)
  rw [List.getElem_map] at h3 h4
  exact ⟨b, off, e, hb, h3, h4⟩
theorem ltU_at {a b : List (Nat × Nat)} {k : Nat} (ha : k < a.length) (hb : k < b.length) : ltU (a.drop k) (b.drop k) = if a[k].1 ≠ b[k].1 then decide (a[k].1 < b[k].1) else ltU (a.drop (k + 1)) (b.drop (k + 1)) := by
  rw [List.drop_eq_getElem_cons ha, List.drop_eq_getElem_cons hb]
  rfl
set_option maxRecDepth 100000 in
theorem rbetter_any (a b : List (Nat × Nat)) (hla : a.length ≤ 1000) (hlb : b.length ≤ 1000) (A B : Option Addr) (ca cb : Nat) (w : World) (hA : Sl w w.heap.size A 2 a.length (tcs a)) (hB : Sl w w.heap.size B 2 b.length (tcs b)) :
    Calls Tryd.prog 41 #[.slice A a.length ca, .slice B b.length cb] w fun e w' => e = .returned (.bool (bt a b)) ∧ ∃ n, w' = w.drewN n := by
  have HX := hideIt hA
  have HY := hideIt hB
  clear hA hB
  have hq := i_neq 3 .i64 (a.length : Int) (b.length : Int)
  by_cases hl : a.length = b.length
  · rw [decide_eq_false (by omega)] at hq
    have HR := hideIt (show bt a b = ltU a b from if_neg (fun h => h hl))
    have Hl := hideIt hl
    clear hl
    go_enter Tryd.func41, Tryd.ntmps41
    go_wp2_with fail
    go_loopg [5] a.length (fun gk s5 wr => ∃ k : Nat, k + gk = a.length ∧ s5 = .int .i64 (k : Int) ∧ Aside (ltU (a.drop k) (b.drop k) = ltU a b) ∧ Aside (∃ n, wr = w.drewN n))
    case atStart => exact ⟨0, by omega, rfl, rfl, 0, rfl⟩
    case round =>
      obtain ⟨k, hk, rfl, HI, HD⟩ := hrel
      obtain ⟨n0, hn0⟩ := HD.out
      obtain ⟨w4, rfl⟩ : ∃ x, x = wr := ⟨wr, rfl⟩
      have hbl : Below w.heap.size w w4 := by rw [hn0]; exact below_drewN (Below.refl _ _) n0
      have HN := hideIt hn0
      by_cases hlt : k < a.length
      · have hlt2 : k < b.length := by have := Hl.out; omega
        obtain ⟨b1, o1, rfl, _, hc1, _⟩ := (HX.out.below hbl).tt hlt
        obtain ⟨b2, o2, rfl, _, hc2, _⟩ := (HY.out.below hbl).tt hlt2
        have hinc := inc_c 3 k (by omega)
        have hki : (k : Int) < (a.length : Int) := by omega
        have hki2 : (k : Int) < (b.length : Int) := by omega
        have HA := hideIt ((ltU_at hlt hlt2).symm.trans HI.out)
        generalize a[k].1 = p at *
        generalize b[k].1 = q at *
        have hpq := i_neq 3 .i64 (p : Int) (q : Int)
        clear hbl hn0 HD HI
        by_cases he : p = q
        · rw [decide_eq_false (by omega)] at hpq
          have HE := hideIt ((if_neg (fun h => h he)).symm.trans HA.out)
          clear he HA
          go_wp2_with fail
          go_quiet (fail)
          go_wp2_with fail
          go_roundg (gk - 1)
          case measure => omega
          case rel => exact ⟨k + 1, by omega, by go_num, HE.out, _, by rw [HN.out]; exact World.drewN_drewN _ _ _⟩
        · rw [decide_eq_true (by omega)] at hpq
          have HE := hideIt ((if_pos he).symm.trans HA.out)
          by_cases hpl : p < q
          · have hpi : (p : Int) < (q : Int) := by omega
            have HF := hideIt (HR.out.trans (HE.out.symm.trans (decide_eq_true hpl)))
            clear he HA hpl HE
            go_wp2_with fail
            go_quiet (fail)
            go_wp2_with fail
            go_quiet (fail)
            go_wp2_with fail
            go_ret
            exact ⟨(by rw [HF.out]; rfl), _, by rw [HN.out, World.drewN_drewN, World.drewN_drewN]⟩
          · have hpi : ¬ (p : Int) < (q : Int) := by omega
            have HF := hideIt (HR.out.trans HE.out.symm)
            clear he HA hpl HE
            go_wp2_with fail
            go_quiet (fail)
            go_wp2_with fail
            go_quiet (fail)
            go_wp2_with fail
            go_ret
            exact ⟨(by rw [HF.out]; rfl), _, by rw [HN.out, World.drewN_drewN, World.drewN_drewN]⟩
      · have hki : ¬ (k : Int) < (a.length : Int) := by omega
        have HF := hideIt (show bt a b = false by
          rw [HR.out, ← HI.out, List.drop_eq_nil_of_le (by omega)]; rfl)
        clear hbl hn0
        go_wp2_with fail
        go_ret
        exact ⟨(by rw [HF.out]; rfl), n0, HN.out⟩
  · rw [decide_eq_true (by omega)] at hq
    have HR := hideIt (show bt a b = decide (a.length < b.length) from if_pos hl)
    by_cases hlt : a.length < b.length
    · have hki : (a.length : Int) < (b.length : Int) := by omega
      rw [decide_eq_true hlt] at HR
      clear hlt hl
      go_enter Tryd.func41, Tryd.ntmps41
      go_wp2_with fail
      go_ret
      exact ⟨(by rw [HR.out]; rfl), 0, rfl⟩
    · have hki : ¬ (a.length : Int) < (b.length : Int) := by omega
      rw [decide_eq_false hlt] at HR
      clear hlt hl
      go_enter Tryd.func41, Tryd.ntmps41
      go_wp2_with fail
      go_ret
      exact ⟨(by rw [HR.out]; rfl), 0, rfl⟩
set_option maxRecDepth 100000 in
theorem rsame_any (u v : Int) (xs ys : List (Nat × Nat)) (hlx : xs.length ≤ 1000) (A B : Option Addr) (ca cb : Nat) (w : World) (hA : Sl w w.heap.size A 2 xs.length (tcs xs)) (hB : Sl w w.heap.size B 2 ys.length (tcs ys)) :
    Calls Tryd.prog 17 #[.agg #[.int .i64 u, .slice A xs.length ca], .agg #[.int .i64 v, .slice B ys.length cb]] w fun e w' => e = .returned (.bool (decide (u = v ∧ xs = ys))) ∧ Below w.heap.size w w' := by
  obtain ⟨W1, hW1⟩ : ∃ W, W = w.alloc (.cells #[.int .i64 u, .slice A xs.length ca] 30) := ⟨_, rfl⟩
  obtain ⟨W2, hW2⟩ : ∃ W, W = W1.alloc (.cells #[.int .i64 v, .slice B ys.length cb] 30) := ⟨_, rfl⟩
  have hb1 : Below w.heap.size w W1 := by rw [hW1]; exact below_new w _
  have hb2 : Below W1.heap.size W1 W2 := by rw [hW2]; exact below_new W1 _
  have hbw := hb1.trans (hb2.mono hb1.size)
  have HB := hideIt hbw
  have HST := hideIt (fun n => sameTerms_any xs ys A B ca cb (W2.drewN n) (((hA.below hbw).wide hbw.size).below (below_drewN (Below.refl _ _) n)) (((hB.below hbw).wide hbw.size).below (below_drewN (Below.refl _ _) n)) (by omega))
  have HWE1 := hideIt hW1
  have HWE2 := hideIt hW2
  have hq := i_eql 3 .i64 u v
  clear hb1 hb2 hbw hA hB hW1 hW2
  by_cases hu : u = v
  · rw [decide_eq_true hu] at hq
    have HR := hideIt (show decide (u = v ∧ xs = ys) = decide (xs = ys) from decide_eq_decide.2 ⟨fun h => h.2, fun h => ⟨hu, h⟩⟩)
    rw [HR.out]
    clear hu
    generalize decide (xs = ys) = r at *
    go_enter Tryd.func17, Tryd.ntmps17
    go_wp2_with (go_at_call 47; rw [← HWE1.out, ← HWE2.out]; refine (HST.out 0).mono ?_; rintro e w5 ⟨rfl, n, rfl⟩)
    go_ret
    exact ⟨rfl, below_drewN HB.out _⟩
  · rw [decide_eq_false hu] at hq
    have HR := hideIt (show decide (u = v ∧ xs = ys) = false from decide_eq_false fun h => hu h.1)
    rw [HR.out]
    clear hu
    go_enter Tryd.func17, Tryd.ntmps17
    go_wp2_with fail
    go_ret
    rw [← HWE1.out, ← HWE2.out]
    exact ⟨rfl, HB.out⟩
end Go.Proofs.YtklngodlijiccaaDoor
