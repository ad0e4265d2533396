/-
  What the program's functions answer, as plain functions: terms, sums, readable units.
-/
import Derived.Test.YtpjgmekpnlpjaaaDoorEraQ
namespace Go.Proofs.YtpjgmekpnlpjaaaDoor
open Go.RowKit
set_option linter.unusedVariables false
set_option linter.unusedSimpArgs false

open Classical in
/-- The coefficients with which p rows add up to a row. -/
noncomputable def cof (m n p : Nat) (V : Mx) (r : Nat → Nat) : Nat → Nat := if h : Dep m n p V r then fun k => if k < p then h.choose k else 0 else fun _ => 0
theorem cof_is {m n p : Nat} {V : Mx} {r : Nat → Nat} (hi : Ind m n p V) {c : Nat → Nat} (hc : Vv m c) (h : ∀ j, j < n → r j = cb m p V c j) : ∀ k, k < p → cof m n p V r k = c k := fun k hk => by
  have hd : Dep m n p V r := ⟨c, hc, h⟩
  unfold cof
  rw [dif_pos hd, if_pos hk]
  exact hi.uniq hd.choose_spec.1 hc (fun j hj => by rw [← hd.choose_spec.2 j hj, h j hj]) k hk
theorem cof_spec {m n p : Nat} {V : Mx} {r : Nat → Nat} (hd : Dep m n p V r) : Vv m (cof m n p V r) ∧ (∀ j, j < n → r j = cb m p V (cof m n p V r) j) ∧ ∀ k, p ≤ k → cof m n p V r k = 0 := by
  unfold cof
  rw [dif_pos hd]
  refine ⟨fun k => ?_, fun j hj => ?_, fun k hk => if_neg (by omega)⟩
  · show (if k < p then hd.choose k else 0) < 2 ^ m
    split
    · exact hd.choose_spec.1 k
    · exact Nat.two_pow_pos m
  · rw [hd.choose_spec.2 j hj]
    exact cb_congr (fun k hk => by rw [if_pos hk]) fun _ _ => rfl

/-- The terms whose coefficient is not 0, among the first k. -/
def tms (B : List Nat) (c : Nat → Nat) : Nat → List (Nat × Nat)
  | 0 => []
  | k + 1 => if c k = 0 then tms B c k else tms B c k ++ [(B.getD k 0, c k)]
theorem tms_congr {B : List Nat} {c d : Nat → Nat} : ∀ {k : Nat}, (∀ i, i < k → c i = d i) → tms B c k = tms B d k
  | 0, _ => rfl
  | k + 1, h => by
    show ite _ _ _ = ite _ _ _
    rw [h k (Nat.lt_succ_self k), tms_congr fun i hi => h i (Nat.lt_succ_of_lt hi)]
theorem tms_more {B : List Nat} {c : Nat → Nat} {p : Nat} : ∀ d : Nat, (∀ i, p ≤ i → i < p + d → c i = 0) → tms B c (p + d) = tms B c p
  | 0, _ => rfl
  | d + 1, h => by
    show (if c (p + d) = 0 then tms B c (p + d) else tms B c (p + d) ++ [(B.getD (p + d) 0, c (p + d))]) = _
    rw [if_pos (h (p + d) (by omega) (by omega))]
    exact tms_more d fun i h1 h2 => h i h1 (by omega)
theorem tms_len (B : List Nat) (c : Nat → Nat) : ∀ k, (tms B c k).length ≤ k
  | 0 => Nat.le_refl _
  | k + 1 => by
    show (if c k = 0 then tms B c k else tms B c k ++ [(B.getD k 0, c k)]).length ≤ _
    split
    · have := tms_len B c k; omega
    · rw [List.length_append]; have := tms_len B c k; simp; omega
theorem tms_mem {B : List Nat} {c : Nat → Nat} : ∀ {k : Nat} {t : Nat × Nat}, t ∈ tms B c k → ∃ i, i < k ∧ t = (B.getD i 0, c i) ∧ c i ≠ 0
  | 0, t, h => by cases h
  | k + 1, t, h => by
    by_cases h0 : c k = 0
    · rw [show tms B c (k + 1) = tms B c k from if_pos h0] at h
      obtain ⟨i, h1, h2⟩ := tms_mem h
      exact ⟨i, by omega, h2⟩
    · rw [show tms B c (k + 1) = tms B c k ++ [(B.getD k 0, c k)] from if_neg h0] at h
      rcases List.mem_append.1 h with h | h
      · obtain ⟨i, h1, h2⟩ := tms_mem h
        exact ⟨i, by omega, h2⟩
      · rw [List.mem_singleton] at h
        exact ⟨k, Nat.lt_succ_self k, h, h0⟩

abbrev fC (x : Cd) : Nat := x.field.toNat
abbrev nC (x : Cd) : Nat := x.data.toNat
/-- Is a unit's row a combination of the basis? -/
def recov (x : Cd) (hs : List Bool) (u : Nat) : Prop := Dep (fC x) (nC x) (basL x hs).length (sel (gC x) (basL x hs)) (gC x u)
noncomputable def cofU (x : Cd) (hs : List Bool) (u : Nat) : Nat → Nat := cof (fC x) (nC x) (basL x hs).length (sel (gC x) (basL x hs)) (gC x u)
open Classical in
noncomputable def trmR (x : Cd) (hs : List Bool) (u : Nat) : List (Nat × Nat) × Int := if recov x hs u then (tms (basL x hs) (cofU x hs u) (basL x hs).length, 0) else ([], 11)
def idxB (hs : List Bool) (u : Int) : Bool := decide (0 ≤ u ∧ u < hs.length)
noncomputable def combR (x : Cd) (hs : List Bool) (u : Int) : List (Nat × Nat) × Int := if okB x hs = true ∧ idxB hs u = true then trmR x hs u.toNat else ([], 1)
def sumR (m : Int) (ts : List (Nat × Nat)) (us : List (List UInt8)) : List UInt8 := cbS m (ts.map fun t => (t.2 : Int)) (ts.map fun t => us.getD t.1 [])
def presK (us : List (List UInt8)) (hs : List Bool) : Nat → List (List UInt8)
  | 0 => []
  | k + 1 => if hs.getD k false = true then presK us hs k ++ [us.getD k []] else presK us hs k
def readB (x : Cd) (us : List (List UInt8)) (hs : List Bool) : Bool := perB x us.length && alk (fC x) (presK us hs us.length)
noncomputable def recR (x : Cd) (us : List (List UInt8)) (hs : List Bool) (u : Int) : List UInt8 × Int :=
  if okB x hs = true ∧ idxB hs u = true ∧ readB x us hs = true then (if (trmR x hs u.toNat).2 = 0 then (sumR x.field (trmR x hs u.toNat).1 us, 0) else ([], (trmR x hs u.toNat).2)) else ([], 1)
noncomputable def decR (x : Cd) (us : List (List UInt8)) (hs : List Bool) : List (List UInt8) × Int :=
  if okB x hs = true ∧ readB x us hs = true then (if (basL x hs).length = nC x then ((List.range us.length).map (fun u => sumR x.field (trmR x hs u).1 us), 0) else ([], 11)) else ([], 1)

theorem presK_len (us : List (List UInt8)) (hs : List Bool) : ∀ k, (presK us hs k).length ≤ k
  | 0 => Nat.le_refl _
  | k + 1 => by
    show (if hs.getD k false = true then presK us hs k ++ [us.getD k []] else presK us hs k).length ≤ _
    split
    · rw [List.length_append]; have := presK_len us hs k; simp; omega
    · have := presK_len us hs k; omega
theorem presK_mem {us : List (List UInt8)} {hs : List Bool} : ∀ {k : Nat} {u : List UInt8}, k ≤ us.length → u ∈ presK us hs k → u ∈ us
  | 0, u, _, h => by cases h
  | k + 1, u, hk, h => by
    by_cases h0 : hs.getD k false = true
    · rw [show presK us hs (k + 1) = presK us hs k ++ [us.getD k []] from if_pos h0] at h
      rcases List.mem_append.1 h with h | h
      · exact presK_mem (by omega) h
      · rw [List.mem_singleton] at h
        rw [h, show us.getD k [] = us[k] by simp [List.getD_eq_getElem?_getD, show k < us.length by omega]]
        exact List.getElem_mem _
    · rw [show presK us hs (k + 1) = presK us hs k from if_neg h0] at h
      exact presK_mem (by omega) h
end Go.Proofs.YtpjgmekpnlpjaaaDoor
