/-
  How long what All answers is.
-/
import Derived.Test.YtklngodlijiccaaDoorRepC
namespace Go.Proofs.YtklngodlijiccaaDoor
open Go.RowKit
set_option linter.unusedVariables false
theorem foldE_mem : ∀ (r : List PE) (acc : List (Int × TL)), (foldE acc r).1.length ≤ acc.length + r.length ∧ ∀ q ∈ (foldE acc r).1, q ∈ acc ∨ ∃ y ∈ r, q = y.1
  | [], acc => ⟨Nat.le_refl _, fun q h => .inl h⟩
  | y :: r, acc => by
    obtain ⟨h1, h2⟩ := foldE_mem r (acc ++ [y.1])
    unfold foldE
    split
    · refine ⟨by simp only [List.length_append, List.length_cons, List.length_nil] at h1 ⊢; omega, fun q hq => ?_⟩
      rcases h2 q hq with h | ⟨z, hz, e⟩
      · rcases List.mem_append.1 h with h | h
        · exact .inl h
        · exact .inr ⟨y, List.mem_cons_self .., by simpa using h⟩
      · exact .inr ⟨z, List.mem_cons_of_mem _ hz, e⟩
    · exact ⟨Nat.zero_le _, fun q h => by cases h⟩
theorem yl_mem (P : Nat → PE) : ∀ (l : List Bool) (k : Nat), ∀ y ∈ yl P k l, ∃ i, y = P i
  | [], k => fun y h => by cases h
  | b :: r, k => fun y h => by
    unfold yl at h
    split at h
    · exact yl_mem P r (k + 1) y h
    · rcases List.mem_cons.1 h with h | h
      · exact ⟨k, h⟩
      · exact yl_mem P r (k + 1) y h
theorem allR_len (x : Cd) (hs : List Bool) : (allR x hs).1.length ≤ 32 ∧ ∀ q ∈ (allR x hs).1, q.2.length ≤ 32 := by
  unfold allR
  by_cases h : okB x hs = true
  · rw [if_pos h]
    have hok := h
    unfold okB at hok
    rw [Bool.and_eq_true, decide_eq_true_eq] at hok
    obtain ⟨m, n, hvc⟩ := vC_spec hok.1
    have hl : hs.length ≤ 32 := by have := hok.2; have := hvc.d; have := hvc.wid; omega
    obtain ⟨h1, h2⟩ := foldE_mem (yl (fun k => planR x hs (k : Int)) 0 hs) []
    have h3 := yl_len (fun k => planR x hs (k : Int)) 0 hs
    refine ⟨by simp only [List.length_nil] at h1; omega, fun q hq => ?_⟩
    rcases h2 q hq with h4 | ⟨y, hy, rfl⟩
    · cases h4
    · obtain ⟨i, rfl⟩ := yl_mem _ _ _ y hy
      exact planR_len x hs i
  · rw [if_neg h]
    exact ⟨Nat.zero_le _, fun q hq => by cases hq⟩
end Go.Proofs.YtklngodlijiccaaDoor
