/-
  A region that draws its order: several loads may be taken first, each under a condition that holds till an operation that waits for it has come up. No program stands behind this text.
-/
import Derived.Test.YtdnbnbnfbfdflaaDoorOnceU
namespace Go.Proofs.YtdnbnbnfbfdflaaDoor
open Go.RowKit
set_option linter.unusedVariables false

/-- Each condition holds as long as its operation has not come up. -/
def Hooks (L : List (Nat × (World → Prop))) (b : Array Bool) (w : World) : Prop := ∀ q ∈ L, b.getD q.1 true = false → q.2 w
theorem Hooks.nil (b : Array Bool) (w : World) : Hooks [] b w := fun q hq => by cases hq
theorem Hooks.add {t : Nat} {S : World → Prop} {L : List (Nat × (World → Prop))} {b : Array Bool} {w : World} (h : S w) (hL : Hooks L b w) : Hooks ((t, S) :: L) b w := fun q hq hb => by
  rcases List.mem_cons.1 hq with rfl | hq
  · exact h
  · exact hL q hq hb
theorem Hooks.skip {t : Nat} {S : World → Prop} {L : List (Nat × (World → Prop))} {b : Array Bool} {w : World} (h : b.getD t true = true) (hL : Hooks L b w) : Hooks ((t, S) :: L) b w := fun q hq hb => by
  rcases List.mem_cons.1 hq with rfl | hq
  · rw [h] at hb; cases hb
  · exact hL q hq hb
section
variable {P : Program} {md : Region.Mode} {ops : Array Oper} {Q : Exit → Act → World → Prop} {L : List (Nat × (World → Prop))}
def wpAnyL (P : Program) (md : Region.Mode) (ops : Array Oper) (Q : Exit → Act → World → Prop) (L : List (Nat × (World → Prop))) : Nat → Array Bool → Act → World → Prop
  | 0, b, a, w => Region.ready md ops b = [] ∧ Q .normal a w
  | fuel + 1, b, a, w =>
    (Region.ready md ops b = [] → Q .normal a w) ∧
    ∀ i ∈ Region.ready md ops b, wpOp P ops Q i (fun a' w' => Hooks L (b.setIfInBounds i true) w' ∧ wpAnyL P md ops Q L fuel (b.setIfInBounds i true) a' w') a w
theorem wpAny_of_L : ∀ (fuel : Nat) (b : Array Bool) (a : Act) (w : World), wpAnyL P md ops Q L fuel b a w → wpAny P md ops Q fuel b a w
  | 0, _, _, _, h => h
  | fuel + 1, _, _, _, h => ⟨h.1, fun i hi => wpOp_mono (fun a' w' h' => wpAny_of_L fuel _ a' w' h'.2) (h.2 i hi)⟩
theorem getD_set_true (b : Array Bool) (i t : Nat) (h : b.getD t true = true) : (b.setIfInBounds i true).getD t true = true := by
  by_cases hit : i = t
  · subst hit; exact set_self _ _
  · rw [getD_set_ne true hit]; exact h
theorem wpAnyL_of_any : ∀ (fuel : Nat) (b : Array Bool) (a : Act) (w : World), (∀ q ∈ L, b.getD q.1 true = true) → wpAny P md ops Q fuel b a w → wpAnyL P md ops Q L fuel b a w
  | 0, _, _, _, _, h => h
  | fuel + 1, b, _, _, hb, h => ⟨h.1, fun i hi => wpOp_mono (fun a' w' h' =>
      have hb' : ∀ q ∈ L, (b.setIfInBounds i true).getD q.1 true = true := fun q hq => getD_set_true b i q.1 (hb q hq)
      ⟨fun q hq hf => (by rw [hb' q hq] at hf; cases hf), wpAnyL_of_any fuel _ a' w' hb' h'⟩) (h.2 i hi)⟩
/-- Set or not, what is no operation of L's makes no difference to the conditions. -/
theorem Hooks.unset {i : Nat} {b : Array Bool} {w : World} (hi : ∀ q ∈ L, q.1 ≠ i) (h : Hooks L (b.setIfInBounds i true) w) : Hooks L b w := fun q hq hb =>
  h q hq (by rw [getD_set_ne true (Ne.symm (hi q hq))]; exact hb)
theorem Hooks.set {i : Nat} {b : Array Bool} {w : World} (hi : ∀ q ∈ L, q.1 ≠ i) (h : Hooks L b w) : Hooks L (b.setIfInBounds i true) w := fun q hq hb =>
  h q hq (by rw [getD_set_ne true (Ne.symm (hi q hq))] at hb; exact hb)
theorem wpAnyL_first {i t : Nat} {oi : Oper} {v : Value} {S : World → Prop} (hi : ops[i]? = some oi) (hsel : ∀ (j : Nat) (o : Oper) cs b, ops[j]? = some o → o.op ≠ .select cs b)
    (hQ : ∀ c a w, Q (.panic c) (a.put oi.dst v) w → Q (.panic c) a w) (hti : waitsB md ops t i = true) (hL : (t, S) ∈ L) (hno : ∀ q ∈ L, q.1 ≠ i) :
    ∀ (fuel : Nat) (listed : Array Bool) (a : Act) (w : World),
      (∀ j oj, ops[j]? = some oj → j ≠ i → listed.getD j true = false → (∀ e ∈ oj.after, Region.binds md e = true → e.on ≠ i) → oi.apart ops oj = true) →
      i ∈ Region.ready md ops listed → YieldsIf P ops S oi v a → Hooks L listed w → listed.getD t true = false →
      wpAnyL P md ops Q L fuel (listed.setIfInBounds i true) (a.put oi.dst v) w → wpAnyL P md ops Q L (fuel + 1) listed a w := by
  obtain ⟨hne, ot, et, hot, het, hbt, hon⟩ := waitsB_spec hti
  intro fuel
  induction fuel with
  | zero =>
    intro listed a w _ hr hy hS htl H
    refine ⟨fun h => (by rw [h] at hr; cases hr), fun j hj => ?_⟩
    by_cases hji : j = i
    · subst hji; exact hy.wpOp hi (hS _ hL htl) ⟨hS.set hno, H⟩
    · have := ready_mono hj hji
      rw [H.1] at this
      cases this
  | succ fuel ih =>
    intro listed a w hfree hr hy hS htl H
    refine ⟨fun h => (by rw [h] at hr; cases hr), fun j hj => ?_⟩
    by_cases hji : j = i
    · subst hji; exact hy.wpOp hi (hS _ hL htl) ⟨hS.set hno, H⟩
    · have h1 := H.2 j (ready_mono hj hji)
      obtain ⟨hjun, oj, hoj, hall⟩ := mem_ready.1 hj
      have hnot : ∀ e ∈ oj.after, Region.binds md e = true → e.on ≠ i := fun e he hb heq => by
        have h1 := hall e he hb
        have h0 := (mem_ready.1 hr).1
        rw [heq] at h1
        rcases Nat.lt_or_ge i listed.size with h' | h'
        · simp [h'] at h0 h1; rw [h0] at h1; cases h1
        · simp [Array.getElem?_eq_none h'] at h1
      have hjt : j ≠ t := fun he => by
        subst he
        rw [hoj] at hot
        obtain rfl := Option.some.inj hot
        exact hnot et het hbt hon
      have htl' : (listed.setIfInBounds j true).getD t true = false := by rw [getD_set_ne true hjt]; exact htl
      have h2 := wpOp_putIf hoj (hfree j oj hoj hji hjun hnot) (fun cs b => hsel i oi cs b hi) (fun cs b => hsel j oj cs b hoj) hQ hy h1
      have hfree' : ∀ k ok, ops[k]? = some ok → k ≠ i → (listed.setIfInBounds j true).getD k true = false →
          (∀ e ∈ ok.after, Region.binds md e = true → e.on ≠ i) → oi.apart ops ok = true := fun k ok hk hki hun hno' => by
        refine hfree k ok hk hki ?_ hno'
        by_cases hjk : j = k
        · subst hjk; exact hjun
        · rw [getD_set_ne true hjk] at hun; exact hun
      refine wpOp_mono (fun a' w' h3 => ?_) h2
      have hS2 : Hooks L (listed.setIfInBounds j true) w' := Hooks.unset hno (by rw [Array.setIfInBounds_comm _ _ hji]; exact h3.2.1)
      refine ⟨hS2, ih (listed.setIfInBounds j true) a' w' hfree' (ready_mono hr (Ne.symm hji)) h3.1 hS2 htl' ?_⟩
      rw [Array.setIfInBounds_comm _ _ hji]
      exact h3.2.2
theorem wpAnyL_freely {i : Nat} {oi : Oper} {v : Value} (hi : ops[i]? = some oi) (hsel : ∀ (j : Nat) (o : Oper) cs b, ops[j]? = some o → o.op ≠ .select cs b)
    (hQ : ∀ c a w, Q (.panic c) (a.put oi.dst v) w → Q (.panic c) a w) (hno : ∀ q ∈ L, q.1 ≠ i) :
    ∀ (fuel : Nat) (listed : Array Bool) (a : Act) (w : World),
      (∀ j oj, ops[j]? = some oj → j ≠ i → listed.getD j true = false → (∀ e ∈ oj.after, Region.binds md e = true → e.on ≠ i) → oi.apart ops oj = true) →
      i ∈ Region.ready md ops listed → YieldsIf P ops (fun _ => True) oi v a → Hooks L listed w →
      wpAnyL P md ops Q L fuel (listed.setIfInBounds i true) (a.put oi.dst v) w → wpAnyL P md ops Q L (fuel + 1) listed a w := by
  intro fuel
  induction fuel with
  | zero =>
    intro listed a w _ hr hy hS H
    refine ⟨fun h => (by rw [h] at hr; cases hr), fun j hj => ?_⟩
    by_cases hji : j = i
    · subst hji; exact hy.wpOp hi trivial ⟨hS.set hno, H⟩
    · have := ready_mono hj hji
      rw [H.1] at this
      cases this
  | succ fuel ih =>
    intro listed a w hfree hr hy hS H
    refine ⟨fun h => (by rw [h] at hr; cases hr), fun j hj => ?_⟩
    by_cases hji : j = i
    · subst hji; exact hy.wpOp hi trivial ⟨hS.set hno, H⟩
    · have h1 := H.2 j (ready_mono hj hji)
      obtain ⟨hjun, oj, hoj, hall⟩ := mem_ready.1 hj
      have hnot : ∀ e ∈ oj.after, Region.binds md e = true → e.on ≠ i := fun e he hb heq => by
        have h1 := hall e he hb
        have h0 := (mem_ready.1 hr).1
        rw [heq] at h1
        rcases Nat.lt_or_ge i listed.size with h' | h'
        · simp [h'] at h0 h1; rw [h0] at h1; cases h1
        · simp [Array.getElem?_eq_none h'] at h1
      have h2 := wpOp_putIf (S := fun _ => True) hoj (hfree j oj hoj hji hjun hnot) (fun cs b => hsel i oi cs b hi) (fun cs b => hsel j oj cs b hoj) hQ hy h1
      have hfree' : ∀ k ok, ops[k]? = some ok → k ≠ i → (listed.setIfInBounds j true).getD k true = false →
          (∀ e ∈ ok.after, Region.binds md e = true → e.on ≠ i) → oi.apart ops ok = true := fun k ok hk hki hun hno' => by
        refine hfree k ok hk hki ?_ hno'
        by_cases hjk : j = k
        · subst hjk; exact hjun
        · rw [getD_set_ne true hjk] at hun; exact hun
      refine wpOp_mono (fun a' w' h3 => ?_) h2
      have hS2 : Hooks L (listed.setIfInBounds j true) w' := Hooks.unset hno (by rw [Array.setIfInBounds_comm _ _ hji]; exact h3.2.1)
      refine ⟨hS2, ih (listed.setIfInBounds j true) a' w' hfree' (ready_mono hr (Ne.symm hji)) h3.1 hS2 ?_⟩
      rw [Array.setIfInBounds_comm _ _ hji]
      exact h3.2.2
/-- No operation of L's has the number i. -/
def freeB (L : List (Nat × (World → Prop))) (i : Nat) : Bool := L.all fun q => q.1 != i
theorem freeB_spec {i : Nat} (h : freeB L i = true) : ∀ q ∈ L, q.1 ≠ i := fun q hq => by
  have := List.all_eq_true.1 h q hq
  simpa using this
theorem wpAnyL_take (i t : Nat) {oi : Oper} (v : Value) (S : World → Prop) {fuel : Nat} {listed : Array Bool} {a : Act} {w : World} (hi : ops[i]? = some oi)
    (hs : Region.noSelect ops = true) (hf : Region.free md ops listed i = true) (hr : (Region.ready md ops listed).contains i = true) (hti : waitsB md ops t i = true) (htl : listed.getD t true = false) (hno : freeB L i = true) (hL : (t, S) ∈ L)
    (hQ : ∀ c a w, Q (.panic c) (a.put oi.dst v) w → Q (.panic c) a w) (hw : Region.wanted oi (yielded ops a.tmps) = true) (hy : ∀ w, S w → (execOp a.eval oi).run P w = .ok (.value v) w) (hS : Hooks L listed w)
    (h : wpAnyL P md ops Q L fuel (listed.setIfInBounds i true) (a.put oi.dst v) w) : wpAnyL P md ops Q L (fuel + 1) listed a w :=
  wpAnyL_first hi (Region.noSelect_spec hs) hQ hti hL (freeB_spec hno) fuel listed a w (Region.free_spec hi hf) (by simpa using hr) (.inl ⟨hw, hy⟩) hS htl h
theorem wpAnyL_move (i : Nat) {oi : Oper} (v : Value) {fuel : Nat} {listed : Array Bool} {a : Act} {w : World} (hi : ops[i]? = some oi)
    (hs : Region.noSelect ops = true) (hf : Region.free md ops listed i = true) (hr : (Region.ready md ops listed).contains i = true) (hno : freeB L i = true)
    (hQ : ∀ c a w, Q (.panic c) (a.put oi.dst v) w → Q (.panic c) a w) (hw : Region.wanted oi (yielded ops a.tmps) = true) (hy : ∀ w, (execOp a.eval oi).run P w = .ok (.value v) w) (hS : Hooks L listed w)
    (h : wpAnyL P md ops Q L fuel (listed.setIfInBounds i true) (a.put oi.dst v) w) : wpAnyL P md ops Q L (fuel + 1) listed a w :=
  wpAnyL_freely hi (Region.noSelect_spec hs) hQ (freeB_spec hno) fuel listed a w (Region.free_spec hi hf) (by simpa using hr) (.inl ⟨hw, fun w _ => hy w⟩) hS h
theorem wpAnyL_one (i : Nat) {o : Oper} {fuel : Nat} {listed : Array Bool} {a : Act} {w : World} (hr : Region.ready md ops listed = [i]) (ho : ops[i]? = some o)
    (h : ∀ K : Act → World → Prop, (∀ a' w', Hooks L (listed.setIfInBounds i true) w' → wpAnyL P md ops Q L fuel (listed.setIfInBounds i true) a' w' → K a' w') →
      wpList P ops (Exit.then K Q) [o] a w) : wpAnyL P md ops Q L (fuel + 1) listed a w := by
  refine ⟨fun h0 => (by rw [hr] at h0; cases h0), fun j hj => ?_⟩
  rw [hr, List.mem_singleton] at hj
  subst hj
  have h1 := h (fun a' w' => Hooks L (listed.setIfInBounds j true) w' ∧ wpAnyL P md ops Q L fuel (listed.setIfInBounds j true) a' w') (fun a' w' p q => ⟨p, q⟩)
  unfold wpOp
  simp only [ho]
  unfold wpList at h1
  split
  · rename_i hw
    rw [if_pos hw] at h1
    rcases h1 with h1 | ⟨h1, a0, w0, h2⟩
    · refine .inl ?_
      unfold Oper.wp at h1 ⊢
      generalize (execOp a.eval o).run P w = r at h1 ⊢
      cases r with
      | ok n w' =>
        cases n <;> simp only [Oper.upon] at h1 ⊢
        case value u => exact h1
        case skip => exact h1
        case defer d => exact h1
        case enter f args =>
          refine Calls.mono h1 fun e w'' he => ?_
          cases e <;> exact he
        case row row args => exact h1
      | halt x w' =>
        cases x <;> simp only [Oper.upon] at h1 ⊢
        case panic u => exact h1
    · exact .inr ⟨h1, a0, w0, h2⟩
  · rename_i hw
    rw [if_neg hw] at h1
    exact h1
/-- What is left, from operation t on, is forced; every condition's operation has come up, or stands next. -/
theorem wpAnyL_last {b : Array Bool} {t : Nat} (hr : Region.ready md ops b = [t]) (hL : (L.all fun q => b.getD q.1 true || q.1 == t) = true) :
    ∀ (fuel : Nat) (a : Act) (w : World), wpAny P md ops Q fuel b a w → wpAnyL P md ops Q L fuel b a w
  | 0, _, _, h => h
  | fuel + 1, _, _, h => ⟨h.1, fun i hi => wpOp_mono (fun a' w' h' => by
      have hit : i = t := by rw [hr, List.mem_singleton] at hi; exact hi
      subst hit
      have hb' : ∀ q ∈ L, (b.setIfInBounds i true).getD q.1 true = true := fun q hq => by
        have := List.all_eq_true.1 hL q hq
        simp only [Bool.or_eq_true, beq_iff_eq] at this
        rcases this with h0 | h0
        · exact getD_set_true b i q.1 h0
        · rw [h0]; exact set_self _ _
      exact ⟨fun q hq hf => (by rw [hb' q hq] at hf; cases hf), wpAnyL_of_any fuel _ a' w' hb' h'⟩) (h.2 i hi)⟩
end
theorem loads_begin {P : Program} {id : Nat} {Q : Exit → Act → World → Prop} {a : Act} {w : World} {l : List Oper} (L : List (Nat × (World → Prop))) (hm : P.follows .mixedOrders = true)
    (h : wpAnyL P .any l.toArray Q L l.length (Array.replicate l.length false) a w.drew) : (Code.region id l.toArray true).wp P Q a w := by
  refine wp_region_any hm ?_
  have := wpAny_of_L _ _ _ _ h
  simpa using this
/-- The beginning, the number of operations written out: the goals stay small. -/
theorem loads_begin_n {P : Program} {id : Nat} {Q : Exit → Act → World → Prop} {a : Act} {w : World} {l : List Oper} (n : Nat) (L : List (Nat × (World → Prop))) (hn : l.length = n) (hm : P.follows .mixedOrders = true)
    (h : wpAnyL P .any l.toArray Q L n (Array.replicate n false) a w.drew) : (Code.region id l.toArray true).wp P Q a w := by
  subst hn
  exact loads_begin L hm h
theorem loads_tail {P : Program} {Q : Exit → Act → World → Prop} {a : Act} {w : World} {l : List Oper} {L : List (Nat × (World → Prop))} (t : Nat) {listed : Array Bool} {fuel : Nat} (hf : fuel = l.length - t) (hr : Region.ready .any l.toArray listed = [t])
    (hL : (L.all fun q => listed.getD q.1 true || q.1 == t) = true) (hB : Region.seqB .any l.toArray (l.length - t) t listed = true) (h : wpList P l.toArray Q (l.drop t) a w) : wpAnyL P .any l.toArray Q L fuel listed a w := by
  subst hf
  have h2 := wpAny_of_seq (md := .any) (Q' := Q) (l.drop t) t listed a w (fun j => by simp [List.getElem?_drop]) (by rw [List.length_drop]; exact hB) h
  rw [List.length_drop] at h2
  exact wpAnyL_last hr hL _ _ _ h2
theorem loads_done {P : Program} {md : Region.Mode} {ops : Array Oper} {Q : Exit → Act → World → Prop} {L : List (Nat × (World → Prop))} {listed : Array Bool} {a : Act} {w : World} {fuel : Nat} (hr : Region.ready md ops listed = []) (h : Q .normal a w) : wpAnyL P md ops Q L fuel listed a w := by
  cases fuel with
  | zero => exact ⟨hr, h⟩
  | succ n => exact ⟨fun _ => h, by rw [hr]; simp⟩

end Go.Proofs.YtdnbnbnfbfdflaaDoor
