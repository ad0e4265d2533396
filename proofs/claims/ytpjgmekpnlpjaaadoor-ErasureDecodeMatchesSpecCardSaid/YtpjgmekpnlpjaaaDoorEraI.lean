/-
  The program's Generator, walked.
-/
import Derived.Test.YtpjgmekpnlpjaaaDoorEraH
namespace Go.Proofs.YtpjgmekpnlpjaaaDoor
open Go.RowKit
set_option linter.unusedVariables false
set_option linter.unusedSimpArgs false

/-- The rows of a code's units. -/
def gC (x : Cd) : Mx := fun u j => if u < x.data.toNat then (if u = j then 1 else 0) else ((x.par.getD (u - x.data.toNat) []).getD j 0).toNat
def genM (x : Cd) : Mt := mkM x.field.toNat (x.data.toNat + x.par.length) x.data.toNat (gC x)
def genR (x : Cd) : Mt × Int := if vC x = true then (genM x, 0) else (zeroM, 1)

theorem VC.fn {x : Cd} {m n : Nat} (h : VC x m n) : x.field.toNat = m := by rw [h.f, Int.toNat_natCast]
theorem VC.dn {x : Cd} {m n : Nat} (h : VC x m n) : x.data.toNat = n := by rw [h.d, Int.toNat_natCast]
theorem gC_v {x : Cd} {m n : Nat} (h : VC x m n) : Vm m (gC x) := fun u j => by
  unfold gC
  split
  · split
    · exact fm_one h.fm
    · exact Nat.two_pow_pos m
  · by_cases hu : u - x.data.toNat < x.par.length
    · have hr := h.row _ (List.getElem_mem hu)
      rw [show x.par.getD (u - x.data.toNat) [] = x.par[u - x.data.toNat] by simp [List.getD_eq_getElem?_getD, hu]]
      by_cases hj : j < (x.par[u - x.data.toNat]).length
      · rw [show (x.par[u - x.data.toNat]).getD j 0 = (x.par[u - x.data.toNat])[j] by simp [List.getD_eq_getElem?_getD, hj]]
        obtain ⟨k, y, hk, hy, hm, hlt⟩ := vd_spec (hr.2.1 _ (List.getElem_mem hj))
        have : k = m := by have := h.f; omega
        subst this
        rw [hy, Int.toNat_natCast]; exact hlt
      · rw [show (x.par[u - x.data.toNat]).getD j 0 = 0 by simp [List.getD_eq_getElem?_getD, hj]]; exact Nat.two_pow_pos m
    · rw [show x.par.getD (u - x.data.toNat) [] = [] by simp [List.getD_eq_getElem?_getD, hu]]; exact Nat.two_pow_pos m
/-- The first rows of the generator, as cells. -/
def genK (x : Cd) (k : Nat) : List Int := nl ((x.data.toNat + k) * x.data.toNat) fun i => gC x (i / x.data.toNat) (i % x.data.toNat)
theorem gC_par {x : Cd} {m n : Nat} (h : VC x m n) {k j : Nat} (hk : k < x.par.length) (hj : j < n) : ((gC x (n + k) j : Nat) : Int) = (x.par[k])[j]'(by rw [(h.row _ (List.getElem_mem hk)).1]; exact hj) := by
  have hr := h.row _ (List.getElem_mem hk)
  have hjl : j < (x.par[k]).length := by rw [hr.1]; exact hj
  have := vd_nonneg (hr.2.1 _ (List.getElem_mem hjl))
  unfold gC
  rw [h.dn, if_neg (by omega), show n + k - n = k by omega, show x.par.getD k [] = x.par[k] by simp [List.getD_eq_getElem?_getD, hk],
    show (x.par[k]).getD j 0 = (x.par[k])[j] by simp [List.getD_eq_getElem?_getD, hjl]]
  omega
theorem genK_next {x : Cd} {m n : Nat} (h : VC x m n) {k : Nat} (hk : k < x.par.length) : genK x (k + 1) = genK x k ++ x.par[k] := by
  have hr := h.row _ (List.getElem_mem hk)
  unfold genK
  rw [h.dn]
  have hl : ((nl ((n + k) * n) fun i => gC x (i / n) (i % n)) ++ x.par[k]).length = (n + (k + 1)) * n := by rw [List.length_append, nl_len, hr.1, ← Nat.add_assoc, Nat.add_mul (n + k) 1 n, Nat.one_mul]
  refine List.ext_getElem (by rw [nl_len, hl]) fun i h1 h2 => ?_
  rw [nl_len] at h1
  rw [nl_get]
  by_cases hi : i < (n + k) * n
  · rw [List.getElem_append_left (by rw [nl_len]; exact hi), nl_get]
  · rw [List.getElem_append_right (by rw [nl_len]; omega)]
    have e1 : (n + (k + 1)) * n = (n + k) * n + n := by rw [← Nat.add_assoc, Nat.add_mul (n + k) 1 n, Nat.one_mul]
    obtain ⟨j, rfl⟩ : ∃ j, i = (n + k) * n + j := ⟨i - (n + k) * n, by omega⟩
    have hj : j < n := by omega
    simp only [nl_len, Nat.add_sub_cancel_left]
    rw [ix_div hj, ix_mod hj]
    exact gC_par h hk hj
theorem genK_zero {x : Cd} {m n : Nat} (h : VC x m n) : genK x 0 = (mkM m n n idm).l := by
  unfold genK mkM
  rw [h.dn]
  show nl ((n + 0) * n) _ = nl (n * n) _
  rw [Nat.add_zero]
  refine nl_congr fun i hi => ?_
  have := (ix_of hi).1
  unfold gC idm
  rw [h.dn, if_pos this]
theorem genK_len (x : Cd) (k : Nat) : (genK x k).length = (x.data.toNat + k) * x.data.toNat := nl_len _ _
end Go.Proofs.YtpjgmekpnlpjaaaDoor
