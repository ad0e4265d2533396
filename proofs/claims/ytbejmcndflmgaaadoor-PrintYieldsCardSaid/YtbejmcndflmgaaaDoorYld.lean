/-
  A range over a function that may be left by a break: both ways on as one. A load in a quiet walk.
-/
import Derived.Test.YtbejmcndflmgaaaDoorPRef
import Derived.Test.YtbejmcndflmgaaaDoorDet
namespace Go.Proofs.YtbejmcndflmgaaaDoor
open Go.RowKit Go.Shelf
set_option linter.unusedVariables false

theorem range_break {P : Program} {α : Type} (id : Nat) {g : Operand} {ps : Array Tmp} {assign body : Code} {Q : Exit → Act → World → Prop} {a : Act} {w : World} (hq : ∀ a w, Q .normal a w → Q (.exit id) a w)
    {gf : Nat} {lb : Array Value} (hg : a.eval g = .func (.func gf) #[] lb) (eg : Enters P gf)
    {encs : α → Array Value} {xs : List α} {C : Nat → Prop} {w0 : World} (hseq : Iter P gf lb encs xs C w0) (hC : ∀ k, C k → k < w0.heap.size ∧ w.heap[k]? = w0.heap[k]?)
    (hps : ∀ x, (encs x).size = ps.size) (T : Nat → Prop) (hT : ∀ k, T k → k < w.heap.size ∧ ¬ C k)
    (I : List α → World → Prop) (hI : Low w.heap.size I) (h0 : I [] w) (a₁ : α → Act)
    (hassign : ∀ (l : Nat) (x : α) (W : World) (K : Act → World → Prop), K (a₁ x) W →
      assign.wpIn (Fence.wide.inRound l) 0 P (Exit.then K (fun _ _ _ => False)) { tmps := (ps.zip (encs x)).foldl (fun t (p, v) => t.setIfInBounds p v) a.tmps, defers := [] } W)
    (hbody : ∀ (l : Nat) (pre : List α) (x : α) (W : World), pre ++ [x] <+: xs → Keeps T w W → I pre W → body.wpIn (Fence.wide.inRound l) 0 P (roundEnd T I (fun c pre W => c = .exit id ∧ I pre W) (pre ++ [x]) W) (a₁ x) W)
    (hrest : ∀ (D : Nat) (pre : List α) (W : World), w.heap.size ≤ D → Keeps T w W → I pre W → W.heap[D]? = some (.deferred (some [])) → Q .normal { a with defers := { target := .collected D, args := #[] } :: a.defers } W) :
    (Code.rangeFunc g ps assign body).wp P Q a w :=
  range_any hg eg hseq hC hps T hT I (fun c pre W => c = .exit id ∧ I pre W) hI (fun c s A B h hb => ⟨h.1, hI _ _ _ h.2 hb⟩) h0 a₁ hassign hbody
    (fun D W hD hK hi hd => hrest D xs W hD hK hi hd)
    (fun D c pre W hD hK _ hi hd => by
      obtain ⟨rfl, hi⟩ := hi
      exact wp_exit (hq _ _ (hrest D pre W hD hK hi hd)))
theorem twinsL_next (l : List UInt8) (pre : List (List UInt8)) (x : List UInt8) (h : pre ++ [x] <+: twinsL l) : x = twin l pre.length ∧ (pre.length : Int) < spc l.length := by
  have h1 := h.length_le
  rw [List.length_append, List.length_cons, List.length_nil, twinsL_len] at h1
  have hj : pre.length < (twinsL l).length := by rw [twinsL_len]; omega
  have h2 := twinsL_at l pre.length hj
  obtain ⟨t, ht⟩ := h
  have h3 : (twinsL l)[pre.length]? = some x := by
    rw [← ht, List.append_assoc, List.getElem?_append_right (Nat.le_refl _), Nat.sub_self]
    rfl
  rw [List.getElem?_eq_getElem hj, h2] at h3
  exact ⟨(Option.some.inj h3).symm, by omega⟩

end Go.Proofs.YtbejmcndflmgaaaDoor
