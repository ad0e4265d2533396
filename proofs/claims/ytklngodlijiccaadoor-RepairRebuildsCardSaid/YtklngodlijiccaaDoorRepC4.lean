/-
  What a plan without an error is; its terms as they are read.
-/
import Derived.Test.YtklngodlijiccaaDoorRepC
namespace Go.Proofs.YtklngodlijiccaaDoor
open Go.RowKit
set_option linter.unusedVariables false
theorem planR_fine {x : Cd} {hs : List Bool} {u pu : Int} {L : List (Nat × Nat)} (h : planR x hs u = ((pu, L), 0)) :
    ∃ (m n k : Nat), u = (k : Int) ∧ pu = (k : Int) ∧ VC x m n ∧ hs.length = n + x.par.length ∧ okB x hs = true ∧ k < hs.length ∧ GoodT x m n hs k L ∧ besK x hs k x.par.length = some L ∧ 0 < L.length := by
  unfold planR at h
  by_cases hc : okB x hs = true ∧ idxB hs u = true
  · rw [if_pos hc] at h
    have hok := hc.1
    have hix := of_decide_eq_true hc.2
    have hok' := hok
    unfold okB at hok'
    rw [Bool.and_eq_true, decide_eq_true_eq] at hok'
    obtain ⟨m, n, hvc⟩ := vC_spec hok'.1
    have hl : hs.length = n + x.par.length := by have := hok'.2; have := hvc.d; omega
    obtain ⟨k, rfl⟩ : ∃ k : Nat, u = (k : Int) := ⟨u.toNat, by omega⟩
    rw [Int.toNat_natCast] at h
    have hk : k < hs.length := by omega
    cases hb : besK x hs k x.par.length with
    | none => rw [hb] at h; simp at h
    | some L' =>
      rw [hb] at h
      simp only [Prod.mk.injEq, and_true] at h
      obtain ⟨h1, h2⟩ := h
      subst h2
      have hg := besK_good hvc hl hok hk _ (Nat.le_refl _) L' hb
      refine ⟨m, n, k, rfl, h1.symm, hvc, hl, hok, hk, hg, hb, ?_⟩
      rcases Nat.eq_zero_or_pos L'.length with h0 | h0
      · obtain ⟨j, hj, hj0⟩ := row_some hvc (u := k) (by omega)
        have := hg.sum j hj
        rw [List.length_eq_zero_iff.1 h0] at this
        exact absurd this.symm hj0
      · exact h0
  · rw [if_neg hc] at h
    simp at h
/-- The unit before term i. -/
def lstU (L : List (Nat × Nat)) : Nat → Int
  | 0 => -1
  | i + 1 => ((L.getD i (0, 0)).1 : Int)
theorem lstU_at {L : List (Nat × Nat)} {i : Nat} (h : i < L.length) : lstU L (i + 1) = (L[i].1 : Int) := by
  show (((L.getD i (0, 0)).1 : Nat) : Int) = _
  rw [List.getD_eq_getElem?_getD, List.getElem?_eq_getElem h]; rfl
theorem lstU_lt {L : List (Nat × Nat)} (hp : L.Pairwise fun a b => a.1 < b.1) : ∀ {i : Nat} (h : i < L.length), lstU L i < (L[i].1 : Int)
  | 0, h => by show (-1 : Int) < _; omega
  | i + 1, h => by
    rw [lstU_at (by omega)]
    have := List.pairwise_iff_getElem.1 hp i (i + 1) (by omega) h (by omega)
    omega
end Go.Proofs.YtklngodlijiccaaDoor
