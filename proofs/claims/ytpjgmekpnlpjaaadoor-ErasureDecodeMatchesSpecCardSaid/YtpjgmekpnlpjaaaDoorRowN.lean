/-
  Several rows of a call, none in the place of another (cut out of the field).
-/
import Derived.Test.YtpjgmekpnlpjaaaDoorOnceU
namespace Go.Proofs.YtpjgmekpnlpjaaaDoor
section
open Go.RowKit
set_option linter.unusedVariables false

/-- Two rows are not in one place. -/
def Apart (u v : Value) : Prop := ∀ k, u.ownBlock = some k → v.ownBlock ≠ some k
theorem Apart.symm {u v : Value} (h : Apart u v) : Apart v u := fun k h1 h2 => h k h2 h1
theorem Apart.kept {u v : Value} (h : Apart u v) : u.ownBlock = none ∨ u.ownBlock ≠ v.ownBlock := by
  cases hu : u.ownBlock with
  | none => exact .inl rfl
  | some k => exact .inr (fun e => h k hu e.symm)
def upd {α : Type} (f : Nat → α) (i : Nat) (x : α) (j : Nat) : α := if j = i then x else f j
/-- Rows of the call's own. -/
structure RN (N : Nat) (es : Nat → TypeId) (w : World) (B : Nat) (vs : Nat → Value) (ks : Nat → Nat) (ls : Nat → List Value) : Prop where
  own : ∀ i, i < N → w.ownsRow B (es i) 1 (vs i) (ks i) (ls i)
  apart : ∀ i j, i < N → j < N → i ≠ j → Apart (vs i) (vs j)
theorem RN.below {N : Nat} {es : Nat → TypeId} {w w' : World} {B : Nat} {vs : Nat → Value} {ks : Nat → Nat} {ls : Nat → List Value} (h : RN N es w B vs ks ls) (hb : Below w.heap.size w w') : RN N es w' B vs ks ls :=
  ⟨fun i hi => own_kept (h.own i hi) hb, h.apart⟩
theorem RN.step {N : Nat} {es : Nat → TypeId} {w w' : World} {B : Nat} {vs : Nat → Value} {ks : Nat → Nat} {ls : Nat → List Value} (h : RN N es w B vs ks ls) (i : Nat) (hi : i < N) {v' : Value} {k' : Nat} {l' : List Value}
    (hg : w.grownBy w' (vs i).ownBlock) (ho : w'.ownsRow B (es i) 1 v' k' l') (hat : v'.ownBlock = (vs i).ownBlock ∨ v'.ownBlock = some w.heap.size) : RN N es w' B (upd vs i v') (upd ks i k') (upd ls i l') := by
  have new : ∀ j, j < N → j ≠ i → Apart (vs j) v' := fun j hj hne k hk hk' => by
    rcases hat with e | e
    · rw [e] at hk'; exact h.apart j i hj hi hne k hk hk'
    · rw [e] at hk'
      have := (h.own j hj).lt k hk
      injection hk' with hk'
      omega
  refine ⟨fun j hj => ?_, fun a b ha hb hab => ?_⟩
  · unfold upd
    by_cases e : j = i
    · subst e
      rw [if_pos rfl, if_pos rfl, if_pos rfl]; exact ho
    · rw [if_neg e, if_neg e, if_neg e]
      exact (h.own j hj).kept hg (h.apart j i hj hi e).kept
  · unfold upd
    by_cases e1 : a = i
    · have e2 : b ≠ i := fun e2 => hab (e1.trans e2.symm)
      rw [if_pos e1, if_neg e2]
      exact (new b hb e2).symm
    · rw [if_neg e1]
      by_cases e2 : b = i
      · rw [if_pos e2]; exact new a ha e1
      · rw [if_neg e2]; exact h.apart a b ha hb hab

theorem RN.same {N : Nat} {es : Nat → TypeId} {w : World} {B : Nat} {vs : Nat → Value} {ks ks' : Nat → Nat} {ls ls' : Nat → List Value} (h : RN N es w B vs ks ls) (hk : ∀ i, i < N → ks i = ks' i) (hl : ∀ i, i < N → ls i = ls' i) : RN N es w B vs ks' ls' :=
  ⟨fun i hi => by rw [← hk i hi, ← hl i hi]; exact h.own i hi, h.apart⟩
theorem RN.none (N : Nat) (es : Nat → TypeId) (w : World) (B : Nat) : RN N es w B (fun _ => .slice none 0 0) (fun _ => 0) (fun _ => []) :=
  ⟨fun i _ => World.ownsRow_nil _ _ _ _, fun i j _ _ _ k hk => by cases hk⟩

section
variable (m : Nat) (cs : List Nat) (us vs : List (List UInt8)) (N c k : Nat) (h1 : k < cs.length) (h2 : k < us.length) (h3 : k < vs.length)
end
end

end Go.Proofs.YtpjgmekpnlpjaaaDoor
