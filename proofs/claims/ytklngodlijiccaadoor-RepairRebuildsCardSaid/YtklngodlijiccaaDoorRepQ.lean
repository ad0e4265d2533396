/-
  A region within a round of a range over a function, walked as anywhere else: what is shown of it in the plain way holds in the round, too.
-/
import Derived.Test.YtklngodlijiccaaDoorRepZ
namespace Go.Proofs.YtklngodlijiccaaDoor
open Go.RowKit
set_option linter.unusedVariables false

/-- No 'defer' statement. -/
def calmOp : Op → Bool
  | .defer _ => false
  | _ => true
section
variable {P : Program} {l' m : Nat} {md : Region.Mode} {ops : Array Oper} {Q : Exit → Act → World → Prop}
theorem upon_in {o : Oper} {a : Act} {K K' : Act → World → Prop} {r : Result Next} (hK : ∀ a w, K a w → K' a w) (h : o.upon P a K Q r) : o.uponIn (Fence.wide.inRound l') m P a K' Q r := by
  cases r with
  | ok x w' =>
    cases x with
    | value v => exact hK _ _ h
    | skip => exact hK _ _ h
    | defer d => exact hK _ _ h
    | enter f args =>
      refine ⟨fun hh => (by simp [Fence.wide] at hh), ?_⟩
      have h2 : CallsIn Fence.wide (m - 1) P f args w' _ := callsIn_wide.2 h
      refine CallsIn.inRound l' (h2.mono ?_)
      intro e w'' he
      cases e with
      | returned v => exact hK _ _ he
      | panicked c => exact he
      | outgrown => exact he
    | row r args =>
      refine ⟨fun hh => (by simp [Fence.wide] at hh), fun c cs _ => ?_⟩
      obtain ⟨v, w'', h1, h2⟩ := h c cs
      exact ⟨v, w'', hK _ _ h1, stepsIn_wide.2 h2⟩
    | round _ _ _ _ _ => exact h.elim
    | _ => exact h.elim
  | halt x w' =>
    cases x with
    | panic v => exact h
    | _ => exact h.elim
theorem wp_in {o : Oper} {a : Act} {w : World} {K K' : Act → World → Prop} (hd : calmOp o.op = true) (hK : ∀ a w, K a w → K' a w) (h : o.wp P a w K Q) : o.wpIn (Fence.wide.inRound l') m P a w K' Q := by
  refine ⟨fun _ _ => trivial, ?_⟩
  rw [Fence.inRound_round, Oper.semAt_some _ _ _ (fun c hc => by rw [hc] at hd; cases hd)]
  exact upon_in hK h
theorem any_in (hd : ∀ o ∈ ops, calmOp o.op = true) (hQ : ¬ LetsOut Q) : ∀ (fuel : Nat) (listed : Array Bool) (a : Act) (w : World), wpAny P md ops Q fuel listed a w → wpAnyIn (Fence.wide.inRound l') m P md ops Q fuel listed a w
  | 0, _, _, _, h => h
  | fuel + 1, listed, a, w, h => ⟨h.1, fun i hi => by
      have h1 := h.2 i hi
      unfold wpOp at h1
      unfold wpOpIn
      cases ho : ops[i]? with
      | none => rw [ho] at h1; exact any_in hd hQ fuel _ _ _ h1
      | some o =>
        rw [ho] at h1
        simp only at h1 ⊢
        split
        · rename_i hw
          rw [if_pos hw] at h1
          rcases h1 with h1 | h1
          · exact wp_in (hd o (Array.mem_of_getElem? ho)) (fun a w => any_in hd hQ fuel _ a w) h1
          · exact absurd h1.2 hQ
        · rename_i hw
          rw [if_neg hw] at h1
          exact ⟨fun _ _ => trivial, any_in hd hQ fuel _ _ _ h1⟩⟩
theorem list_in (hQ : ¬ LetsOut Q) : ∀ (l : List Oper) (hd : ∀ o ∈ l, calmOp o.op = true) (a : Act) (w : World), wpList P ops Q l a w → wpListIn (Fence.wide.inRound l') m P ops Q l a w
  | [], _, _, _, h => h
  | o :: l, hd, a, w, h => by
      unfold wpList at h
      unfold wpListIn
      split
      · rename_i hw
        rw [if_pos hw] at h
        rcases h with h | h
        · exact wp_in (hd o (by simp)) (fun a w => list_in hQ l (fun o ho => hd o (by simp [ho])) a w) h
        · exact absurd h.2 hQ
      · rename_i hw
        rw [if_neg hw] at h
        exact ⟨fun _ _ => trivial, list_in hQ l (fun o ho => hd o (by simp [ho])) _ _ h⟩
/-- A region that draws its order. -/
theorem drawn_in {id : Nat} {l : List Oper} {a : Act} {w : World} (n : Nat) (hn : l.length = n) (hm : P.follows .mixedOrders = true) (hd : (l.all fun o => calmOp o.op) = true) (hQ : ¬ LetsOut Q)
    (h : wpAny P .any l.toArray Q n (Array.replicate n false) a w.drew) : (Code.region id l.toArray true).wpIn (Fence.wide.inRound l') m P Q a w := by
  subst hn
  refine wpIn_region_any hm ?_
  have h2 := any_in (l' := l') (m := m) (fun o ho => List.all_eq_true.1 hd o (by simpa using ho)) hQ _ _ _ _ h
  simpa using h2
/-- A region in its own order. -/
theorem region_in {id : Nat} {l : List Oper} {a : Act} {w : World} (hd : (l.all fun o => calmOp o.op) = true) (hQ : ¬ LetsOut Q) (h : wpList P l.toArray Q l a w) : (Code.region id l.toArray false).wpIn (Fence.wide.inRound l') m P Q a w :=
  wpIn_region_lit (list_in hQ l (fun o ho => List.all_eq_true.1 hd o ho) a w h)
theorem loads_in {id : Nat} {l : List Oper} {a : Act} {w : World} (n : Nat) (L : List (Nat × (World → Prop))) (hn : l.length = n) (hm : P.follows .mixedOrders = true) (hd : (l.all fun o => calmOp o.op) = true) (hQ : ¬ LetsOut Q)
    (h : wpAnyL P .any l.toArray Q L n (Array.replicate n false) a w.drew) : (Code.region id l.toArray true).wpIn (Fence.wide.inRound l') m P Q a w :=
  drawn_in n hn hm hd hQ (wpAny_of_L _ _ _ _ h)
/-- A region whose operations only read, up to the n-th; then the tail, in order. -/
theorem still_in {id : Nat} {l : List Oper} {a : Act} {w : World} (n : Nat) (hm : P.follows .mixedOrders = true) (hB : Region.lexTailB .any l.toArray n = true) (hd : (l.all fun o => calmOp o.op) = true) (hQ : ¬ LetsOut Q)
    (h : ∀ w2 : World, w2 = w.drew → wpStill P l.toArray w2 (fun a' => wpList P l.toArray Q (l.drop n) a' w2) (l.take n) a) : (Code.region id l.toArray true).wpIn (Fence.wide.inRound l') m P Q a w := by
  simp only [Region.lexTailB, Bool.and_eq_true, decide_eq_true_eq] at hB
  have hsz : l.toArray.size = l.length := by simp
  have hn : n < l.length := by have := hB.1.1.1.2; rwa [hsz] at this
  have ht : (l.take n).length = n := by rw [List.length_take]; omega
  have hdl : (l.drop n).length = l.toArray.size - n := by rw [List.length_drop, hsz]
  have hv : HeadInv .any l.toArray n (Array.replicate l.toArray.size false) :=
    ⟨by simp, fun j oj _ hj => (by rw [getD_replicate_false] at hj; cases hj), fun t _ h => getD_in (by simpa using h) (getD_replicate_false _ _)⟩
  have H := Go.wpAnyL_lex (md := .any) (w := w.drew) (g := l.toArray.size - n) hB.1.1.1.1 hB.1.1.2 hB.1.2 hB.1.1.1.2 (l.take n) 0 _ a (fun j hj => by
    rw [ht] at hj
    simp [hj]) (by rw [ht, Nat.zero_add]) hv (by rw [ht]; exact hB.2) (h _ rfl)
  have := Go.wpAny_of_head (Q' := Q) (g := l.toArray.size - n) (fun b a' hL => by
    have := wpAny_of_seq (md := .any) (Q' := Q) (l.drop n) n b a' w.drew (fun j => by simp [List.getElem?_drop]) (by rw [hdl]; exact hL.1) hL.2
    rwa [hdl] at this) _ _ _ H
  rw [ht, show n + (l.toArray.size - n) = l.toArray.size by omega, hsz] at this
  exact drawn_in l.length rfl hm hd hQ this
end

end Go.Proofs.YtklngodlijiccaaDoor
