/-
  A region that draws its order: a load may be taken first, where its cell is written by an operation that waits for it. No program stands behind this text.
  A region that draws its order, gone through operation by operation: more moves; arrays of bytes compared. No program stands behind this text.
  Appending onto a row of the call's own, said with the one block that may turn. No program stands behind this text.
  What a call leaves as it was: all below a bound, and every block that is not of certain types. No program stands behind this text.
  A region that draws its order: several loads may be taken first, each under a condition that holds till an operation that waits for it has come up. No program stands behind this text.
-/
import Derived.Test.YtpjgmekpnlpjaaaDoorQuiet
import Derived.OrdersHeld
import Derived.Test.YtpjgmekpnlpjaaaDoorLib
import Derived.Great.BuildSlice
namespace Go.Proofs.YtpjgmekpnlpjaaaDoor
open Go.RowKit
set_option linter.unusedVariables false

section
variable {P : Program} {md : Region.Mode} {ops : Array Oper} {Q : Exit → Act → World → Prop} {S : World → Prop} {t : Nat}
/-- Whatever order is picked from here on; behind every operation that is carried out S holds, as long as operation t has not come up. -/
def wpAnyU (P : Program) (md : Region.Mode) (ops : Array Oper) (Q : Exit → Act → World → Prop) (S : World → Prop) (t : Nat) : Nat → Array Bool → Act → World → Prop
  | 0, b, a, w => Region.ready md ops b = [] ∧ Q .normal a w
  | fuel + 1, b, a, w =>
    (Region.ready md ops b = [] → Q .normal a w) ∧
    ∀ i ∈ Region.ready md ops b, wpOp P ops Q i (fun a' w' => ((b.setIfInBounds i true).getD t true = false → S w') ∧ wpAnyU P md ops Q S t fuel (b.setIfInBounds i true) a' w') a w
theorem wpAny_of_U : ∀ (fuel : Nat) (b : Array Bool) (a : Act) (w : World), wpAnyU P md ops Q S t fuel b a w → wpAny P md ops Q fuel b a w
  | 0, _, _, _, h => h
  | fuel + 1, _, _, _, h => ⟨h.1, fun i hi => wpOp_mono (fun a' w' h' => wpAny_of_U fuel _ a' w' h'.2) (h.2 i hi)⟩
theorem wpAnyU_of_any : ∀ (fuel : Nat) (b : Array Bool) (a : Act) (w : World), b.getD t true = true → wpAny P md ops Q fuel b a w → wpAnyU P md ops Q S t fuel b a w
  | 0, _, _, _, _, h => h
  | fuel + 1, b, _, _, hb, h => ⟨h.1, fun i hi => wpOp_mono (fun a' w' h' => by
      have hb' : (b.setIfInBounds i true).getD t true = true := by
        by_cases hit : i = t
        · subst hit
          rw [Array.getD_eq_getD_getElem?, Array.getElem?_setIfInBounds]
          simp only [if_true]
          by_cases hlt : i < b.size <;> simp [hlt]
        · rw [getD_set_ne true hit]; exact hb
      exact ⟨fun hf => (by rw [hb'] at hf; cases hf), wpAnyU_of_any fuel _ a' w' hb' h'⟩) (h.2 i hi)⟩
/-- Operation t waits for operation i. -/
def waitsB (md : Region.Mode) (ops : Array Oper) (t i : Nat) : Bool :=
  match ops[t]? with
  | some o => t != i && o.after.any fun e => Region.binds md e && e.on == i
  | none => false
theorem waitsB_spec {t i : Nat} (h : waitsB md ops t i = true) : t ≠ i ∧ ∃ o e, ops[t]? = some o ∧ e ∈ o.after ∧ Region.binds md e = true ∧ e.on = i := by
  unfold waitsB at h
  split at h
  · rename_i o ho
    simp only [Bool.and_eq_true, bne_iff_ne, ne_eq] at h
    obtain ⟨h1, h2⟩ := h
    first
      | (obtain ⟨e, he, hb⟩ := List.any_eq_true.1 h2
         simp only [Bool.and_eq_true, beq_iff_eq] at hb
         exact ⟨h1, o, e, ho, he, hb.1, hb.2⟩)
      | (obtain ⟨e, he, hb⟩ := Array.any_eq_true'.1 h2
         simp only [Bool.and_eq_true, beq_iff_eq] at hb
         exact ⟨h1, o, e, ho, he, hb.1, hb.2⟩)
  · cases h
theorem wpAnyU_first {i : Nat} {oi : Oper} {v : Value} (hi : ops[i]? = some oi) (hsel : ∀ (j : Nat) (o : Oper) cs b, ops[j]? = some o → o.op ≠ .select cs b)
    (hQ : ∀ c a w, Q (.panic c) (a.put oi.dst v) w → Q (.panic c) a w) (hti : waitsB md ops t i = true) :
    ∀ (fuel : Nat) (listed : Array Bool) (a : Act) (w : World),
      (∀ j oj, ops[j]? = some oj → j ≠ i → listed.getD j true = false → (∀ e ∈ oj.after, Region.binds md e = true → e.on ≠ i) → oi.apart ops oj = true) →
      i ∈ Region.ready md ops listed → YieldsIf P ops S oi v a → S w → listed.getD t true = false →
      wpAnyU P md ops Q S t fuel (listed.setIfInBounds i true) (a.put oi.dst v) w → wpAnyU P md ops Q S t (fuel + 1) listed a w := by
  obtain ⟨hne, ot, et, hot, het, hbt, hon⟩ := waitsB_spec hti
  intro fuel
  induction fuel with
  | zero =>
    intro listed a w _ hr hy hS _ H
    refine ⟨fun h => (by rw [h] at hr; cases hr), fun j hj => ?_⟩
    by_cases hji : j = i
    · subst hji; exact hy.wpOp hi hS ⟨fun _ => hS, H⟩
    · have := ready_mono hj hji
      rw [H.1] at this
      cases this
  | succ fuel ih =>
    intro listed a w hfree hr hy hS htl H
    refine ⟨fun h => (by rw [h] at hr; cases hr), fun j hj => ?_⟩
    by_cases hji : j = i
    · subst hji; exact hy.wpOp hi hS ⟨fun _ => hS, H⟩
    · have h1 := H.2 j (ready_mono hj hji)
      obtain ⟨hjun, oj, hoj, hall⟩ := mem_ready.1 hj
      have hnot : ∀ e ∈ oj.after, Region.binds md e = true → e.on ≠ i := fun e he hb heq => by
        have h1 := hall e he hb
        have h0 := (mem_ready.1 hr).1
        rw [heq] at h1
        rcases Nat.lt_or_ge i listed.size with h' | h'
        · simp [h'] at h0 h1; rw [h0] at h1; cases h1
        · simp [Array.getElem?_eq_none h'] at h1
      have hjt : j ≠ t := fun he => by
        subst he
        rw [hoj] at hot
        obtain rfl := Option.some.inj hot
        exact hnot et het hbt hon
      have htl' : (listed.setIfInBounds j true).getD t true = false := by rw [getD_set_ne true hjt]; exact htl
      have hS' : ((listed.setIfInBounds i true).setIfInBounds j true).getD t true = false := by rw [getD_set_ne true hjt, getD_set_ne true (Ne.symm hne)]; exact htl
      have h2 := wpOp_putIf hoj (hfree j oj hoj hji hjun hnot) (fun cs b => hsel i oi cs b hi) (fun cs b => hsel j oj cs b hoj) hQ hy h1
      have hfree' : ∀ k ok, ops[k]? = some ok → k ≠ i → (listed.setIfInBounds j true).getD k true = false →
          (∀ e ∈ ok.after, Region.binds md e = true → e.on ≠ i) → oi.apart ops ok = true := fun k ok hk hki hun hno => by
        refine hfree k ok hk hki ?_ hno
        by_cases hjk : j = k
        · subst hjk; exact hjun
        · rw [getD_set_ne true hjk] at hun; exact hun
      refine wpOp_mono (fun a' w' h3 => ⟨fun _ => h3.2.1 hS', ih (listed.setIfInBounds j true) a' w' hfree' (ready_mono hr (Ne.symm hji)) h3.1 (h3.2.1 hS') htl' ?_⟩) h2
      rw [Array.setIfInBounds_comm _ _ hji]
      exact h3.2.2
/-- Take number i first: it yields v in every world that meets S, and t, which waits for it, has not come up. -/
theorem wpAnyU_take (i : Nat) {oi : Oper} (v : Value) {fuel : Nat} {listed : Array Bool} {a : Act} {w : World} (hi : ops[i]? = some oi)
    (hs : Region.noSelect ops = true) (hf : Region.free md ops listed i = true) (hr : (Region.ready md ops listed).contains i = true) (hti : waitsB md ops t i = true) (htl : listed.getD t true = false)
    (hQ : ∀ c a w, Q (.panic c) (a.put oi.dst v) w → Q (.panic c) a w) (hw : Region.wanted oi (yielded ops a.tmps) = true) (hy : ∀ w, S w → (execOp a.eval oi).run P w = .ok (.value v) w) (hS : S w)
    (h : wpAnyU P md ops Q S t fuel (listed.setIfInBounds i true) (a.put oi.dst v) w) : wpAnyU P md ops Q S t (fuel + 1) listed a w :=
  wpAnyU_first hi (Region.noSelect_spec hs) hQ hti fuel listed a w (Region.free_spec hi hf) (by simpa using hr) (.inl ⟨hw, hy⟩) hS htl h
theorem wpAnyU_freely {i : Nat} {oi : Oper} {v : Value} (hi : ops[i]? = some oi) (hsel : ∀ (j : Nat) (o : Oper) cs b, ops[j]? = some o → o.op ≠ .select cs b)
    (hQ : ∀ c a w, Q (.panic c) (a.put oi.dst v) w → Q (.panic c) a w) (hne : t ≠ i) :
    ∀ (fuel : Nat) (listed : Array Bool) (a : Act) (w : World),
      (∀ j oj, ops[j]? = some oj → j ≠ i → listed.getD j true = false → (∀ e ∈ oj.after, Region.binds md e = true → e.on ≠ i) → oi.apart ops oj = true) →
      i ∈ Region.ready md ops listed → YieldsIf P ops (fun _ => True) oi v a → (listed.getD t true = false → S w) →
      wpAnyU P md ops Q S t fuel (listed.setIfInBounds i true) (a.put oi.dst v) w → wpAnyU P md ops Q S t (fuel + 1) listed a w := by
  intro fuel
  induction fuel with
  | zero =>
    intro listed a w _ hr hy hS H
    refine ⟨fun h => (by rw [h] at hr; cases hr), fun j hj => ?_⟩
    by_cases hji : j = i
    · subst hji; exact hy.wpOp hi trivial ⟨fun hf => hS (by rw [getD_set_ne true (Ne.symm hne)] at hf; exact hf), H⟩
    · have := ready_mono hj hji
      rw [H.1] at this
      cases this
  | succ fuel ih =>
    intro listed a w hfree hr hy hS H
    refine ⟨fun h => (by rw [h] at hr; cases hr), fun j hj => ?_⟩
    by_cases hji : j = i
    · subst hji; exact hy.wpOp hi trivial ⟨fun hf => hS (by rw [getD_set_ne true (Ne.symm hne)] at hf; exact hf), H⟩
    · have h1 := H.2 j (ready_mono hj hji)
      obtain ⟨hjun, oj, hoj, hall⟩ := mem_ready.1 hj
      have hnot : ∀ e ∈ oj.after, Region.binds md e = true → e.on ≠ i := fun e he hb heq => by
        have h1 := hall e he hb
        have h0 := (mem_ready.1 hr).1
        rw [heq] at h1
        rcases Nat.lt_or_ge i listed.size with h' | h'
        · simp [h'] at h0 h1; rw [h0] at h1; cases h1
        · simp [Array.getElem?_eq_none h'] at h1
      have h2 := wpOp_putIf (S := fun _ => True) hoj (hfree j oj hoj hji hjun hnot) (fun cs b => hsel i oi cs b hi) (fun cs b => hsel j oj cs b hoj) hQ hy h1
      have hfree' : ∀ k ok, ops[k]? = some ok → k ≠ i → (listed.setIfInBounds j true).getD k true = false →
          (∀ e ∈ ok.after, Region.binds md e = true → e.on ≠ i) → oi.apart ops ok = true := fun k ok hk hki hun hno => by
        refine hfree k ok hk hki ?_ hno
        by_cases hjk : j = k
        · subst hjk; exact hjun
        · rw [getD_set_ne true hjk] at hun; exact hun
      refine wpOp_mono (fun a' w' h3 => ⟨fun hf => h3.2.1 (by rw [Array.setIfInBounds_comm _ _ (Ne.symm hji), getD_set_ne true (Ne.symm hne)]; exact hf), ih (listed.setIfInBounds j true) a' w' hfree' (ready_mono hr (Ne.symm hji)) h3.1 (fun hf => h3.2.1 (by rw [Array.setIfInBounds_comm _ _ (Ne.symm hji), getD_set_ne true (Ne.symm hne)]; exact hf)) ?_⟩) h2
      rw [Array.setIfInBounds_comm _ _ hji]
      exact h3.2.2
/-- Take number i first: it yields v in every world. -/
theorem wpAnyU_move (i : Nat) {oi : Oper} (v : Value) {fuel : Nat} {listed : Array Bool} {a : Act} {w : World} (hi : ops[i]? = some oi)
    (hs : Region.noSelect ops = true) (hf : Region.free md ops listed i = true) (hr : (Region.ready md ops listed).contains i = true) (hne : (t != i) = true)
    (hQ : ∀ c a w, Q (.panic c) (a.put oi.dst v) w → Q (.panic c) a w) (hw : Region.wanted oi (yielded ops a.tmps) = true) (hy : ∀ w, (execOp a.eval oi).run P w = .ok (.value v) w) (hS : listed.getD t true = false → S w)
    (h : wpAnyU P md ops Q S t fuel (listed.setIfInBounds i true) (a.put oi.dst v) w) : wpAnyU P md ops Q S t (fuel + 1) listed a w :=
  wpAnyU_freely hi (Region.noSelect_spec hs) hQ (by simpa using hne) fuel listed a w (Region.free_spec hi hf) (by simpa using hr) (.inl ⟨hw, fun w _ => hy w⟩) hS h
/-- What stands next is the only one. -/
theorem wpAnyU_one (i : Nat) {o : Oper} {fuel : Nat} {listed : Array Bool} {a : Act} {w : World} (hr : Region.ready md ops listed = [i]) (ho : ops[i]? = some o)
    (h : ∀ K : Act → World → Prop, (∀ a' w', ((listed.setIfInBounds i true).getD t true = false → S w') → wpAnyU P md ops Q S t fuel (listed.setIfInBounds i true) a' w' → K a' w') →
      wpList P ops (Exit.then K Q) [o] a w) : wpAnyU P md ops Q S t (fuel + 1) listed a w := by
  refine ⟨fun h0 => (by rw [hr] at h0; cases h0), fun j hj => ?_⟩
  rw [hr, List.mem_singleton] at hj
  subst hj
  have h1 := h (fun a' w' => ((listed.setIfInBounds j true).getD t true = false → S w') ∧ wpAnyU P md ops Q S t fuel (listed.setIfInBounds j true) a' w') (fun a' w' p q => ⟨p, q⟩)
  unfold wpOp
  simp only [ho]
  unfold wpList at h1
  split
  · rename_i hw
    rw [if_pos hw] at h1
    rcases h1 with h1 | ⟨h1, a0, w0, h2⟩
    · refine .inl ?_
      unfold Oper.wp at h1 ⊢
      generalize (execOp a.eval o).run P w = r at h1 ⊢
      cases r with
      | ok n w' =>
        cases n <;> simp only [Oper.upon] at h1 ⊢
        case value u => exact h1
        case skip => exact h1
        case defer d => exact h1
        case enter f args =>
          refine Calls.mono h1 fun e w'' he => ?_
          cases e <;> exact he
        case row row args => exact h1
      | halt x w' =>
        cases x <;> simp only [Oper.upon] at h1 ⊢
        case panic u => exact h1
    · exact .inr ⟨h1, a0, w0, h2⟩
  · rename_i hw
    rw [if_neg hw] at h1
    exact h1
end
/-- The beginning: the load number i is taken first. -/
theorem once_begin {P : Program} {id : Nat} {Q : Exit → Act → World → Prop} {a : Act} {w : World} {l : List Oper} (S : World → Prop) (t : Nat) (hm : P.follows .mixedOrders = true)
    (h : wpAnyU P .any l.toArray Q S t l.length (Array.replicate l.length false) a w.drew) : (Code.region id l.toArray true).wp P Q a w := by
  refine wp_region_any hm ?_
  have := wpAny_of_U _ _ _ _ h
  simpa using this
theorem wpAnyU_last {P : Program} {md : Region.Mode} {ops : Array Oper} {Q : Exit → Act → World → Prop} {S : World → Prop} {t : Nat} {b : Array Bool} (hr : Region.ready md ops b = [t]) :
    ∀ (fuel : Nat) (a : Act) (w : World), wpAny P md ops Q fuel b a w → wpAnyU P md ops Q S t fuel b a w
  | 0, _, _, h => h
  | fuel + 1, _, _, h => ⟨h.1, fun i hi => wpOp_mono (fun a' w' h' => by
      have hit : i = t := by rw [hr, List.mem_singleton] at hi; exact hi
      subst hit
      have hb' : (b.setIfInBounds i true).getD i true = true := by
        rw [Array.getD_eq_getD_getElem?, Array.getElem?_setIfInBounds]
        simp only [if_true]
        by_cases hlt : i < b.size <;> simp [hlt]
      exact ⟨fun hf => (by rw [hb'] at hf; cases hf), wpAnyU_of_any fuel _ a' w' hb' h'⟩) (h.2 i hi)⟩
/-- The end: what is left, from operation t on, is forced. -/
theorem once_tail {P : Program} {Q : Exit → Act → World → Prop} {a : Act} {w : World} {l : List Oper} {S : World → Prop} {t : Nat} {listed : Array Bool} {fuel : Nat} (hf : fuel = l.length - t) (hr : Region.ready .any l.toArray listed = [t])
    (hB : Region.seqB .any l.toArray (l.length - t) t listed = true) (h : wpList P l.toArray Q (l.drop t) a w) : wpAnyU P .any l.toArray Q S t fuel listed a w := by
  subst hf
  have h2 := wpAny_of_seq (md := .any) (Q' := Q) (l.drop t) t listed a w (fun j => by simp [List.getElem?_drop]) (by rw [List.length_drop]; exact hB) h
  rw [List.length_drop] at h2
  exact wpAnyU_last hr _ _ _ h2

section
variable {P : Program} {md : Region.Mode} {ops : Array Oper} {Q : Exit → Act → World → Prop} {S : World → Prop} {t : Nat}
theorem wpAnyU_drop {fuel : Nat} {listed : Array Bool} {a : Act} {w : World} (ht : listed.getD t true = true) (h : wpAnyU P md ops Q (fun _ => True) t fuel listed a w) : wpAnyU P md ops Q S t fuel listed a w :=
  wpAnyU_of_any _ _ _ _ ht (wpAny_of_U _ _ _ _ h)
theorem set_self (b : Array Bool) (i : Nat) : (b.setIfInBounds i true).getD i true = true := by
  rw [Array.getD_eq_getD_getElem?, Array.getElem?_setIfInBounds]
  simp only [if_true]
  by_cases hlt : i < b.size <;> simp [hlt]
/-- Operation t stands next, alone: behind it nothing is asked of the worlds. -/
theorem wpAnyU_at {o : Oper} {fuel : Nat} {listed : Array Bool} {a : Act} {w : World} (hr : Region.ready md ops listed = [t]) (ho : ops[t]? = some o)
    (h : ∀ K : Act → World → Prop, (∀ a' w', wpAnyU P md ops Q (fun _ => True) t fuel (listed.setIfInBounds t true) a' w' → K a' w') → wpList P ops (Exit.then K Q) [o] a w) : wpAnyU P md ops Q S t (fuel + 1) listed a w :=
  wpAnyU_one t hr ho fun K hK => h K fun a' w' h' => hK a' w' (fun hf => (by rw [set_self] at hf; cases hf)) (wpAnyU_drop (set_self _ _) h')
/-- The same, and another condition on the worlds from there on. -/
theorem wpAnyU_on (S' : World → Prop) (t' : Nat) {o : Oper} {fuel : Nat} {listed : Array Bool} {a : Act} {w : World} (hr : Region.ready md ops listed = [t]) (ho : ops[t]? = some o)
    (h : ∀ K : Act → World → Prop, (∀ a' w', wpAnyU P md ops Q S' t' fuel (listed.setIfInBounds t true) a' w' → K a' w') → wpList P ops (Exit.then K Q) [o] a w) : wpAnyU P md ops Q S t (fuel + 1) listed a w :=
  wpAnyU_one t hr ho fun K hK => h K fun a' w' h' => hK a' w' (fun hf => (by rw [set_self] at hf; cases hf)) (wpAnyU_of_any _ _ _ _ (set_self _ _) (wpAny_of_U _ _ _ _ h'))
theorem wpAnyU_done {listed : Array Bool} {a : Act} {w : World} {fuel : Nat} (hr : Region.ready md ops listed = []) (h : Q .normal a w) : wpAnyU P md ops Q S t fuel listed a w := by
  cases fuel with
  | zero => exact ⟨hr, h⟩
  | succ n => exact ⟨fun _ => h, by rw [hr]; simp⟩
end
theorem exec_load_blk {P : Program} {ev : Operand → Value} {W : World} {o : Oper} {ty : TypeId} {x : Operand} {g : Nat} {t : TypeId} {cs : List Value} (ho : o.op = .load ty x) (hx : ev x = .pointer (some ⟨g, 0, none⟩)) (hg : Blk W g t cs) (d : TypeDesc)
    (hu : P.underlying ty = some d) (hd : d.isRow = true) (hi : (P.info? ty).map (·.size) = some cs.length) : (execOp ev o).run P W = .ok (.value (.agg cs.toArray)) W := by
  unfold execOp
  simp only [ho, hx, Sem.run_bind, run_load_blk hg ty d hu hd hi, Result.andThen_ok, Sem.run_pure]
set_option maxRecDepth 100000 in
theorem equal_bytes (T : TypeId) (n : Nat) (hT : Tryd.prog.underlying T = some (.array n 5)) (a b : List UInt8) (ha : a.length = n) (hb : b.length = n) (w : World) :
    (Op.equalIn 10000 T (.agg (a.map bv).toArray) (.agg (b.map bv).toArray)).run Tryd.prog w = .ok (decide (a = b)) w := by
  obtain ⟨i, hi, h⟩ : ∃ i, Tryd.prog.info? 5 = some i ∧ True := by
    have h5 : (Tryd.prog.info? 5).isSome = true := by kernel_rfl
    obtain ⟨i, hi⟩ := Option.isSome_iff_exists.1 h5
    exact ⟨i, hi, trivial⟩
  have hc : Tryd.prog.cellsOf 5 = 1 := by kernel_rfl
  rw [show (10000 : Nat) = 9998 + 1 + 1 from rfl, run_equalIn_array w (9998 + 1) _ _ (t := T) (e := 5) (n := n) hT hi, hc,
    eqItems_bytes Tryd.underlying5 (fun w => by kernel_rfl) 9998 a b w (List.range n) (fun i hi => by rw [List.mem_range] at hi; omega)]
  congr 1
  rw [Bool.eq_iff_iff, List.all_eq_true, decide_eq_true_iff]
  constructor
  · intro h
    apply List.ext_getElem?
    intro i
    by_cases hi : i < n
    · simpa using h i (List.mem_range.2 hi)
    · rw [List.getElem?_eq_none (by omega), List.getElem?_eq_none (by omega)]
  · rintro rfl i _
    simp

theorem grown_refl (w : World) (row : Option Nat) : w.grownBy w row := ⟨rfl, rfl, rfl, Nat.le_refl _, fun _ _ _ => rfl⟩
theorem own_ne {w : World} {base : Nat} {e : TypeId} {size n : Nat} {v : Value} {xs : List Value} {g : Nat} {t : TypeId} {cs : List Value} (h : w.ownsRow base e size v n xs) (hb : Blk w g t cs) (ht : t ≠ e) : some g ≠ v.ownBlock := by
  rcases h.2 with ⟨rfl, _⟩ | ⟨k, cap, cur, rfl, _, hk, _⟩
  · simp [Value.ownBlock]
  · intro hc
    simp only [Value.ownBlock, Option.some.injEq] at hc
    subst hc
    unfold Blk at hb
    rw [hk] at hb
    injection hb with hb
    injection hb with _ hb
    exact ht hb.symm
theorem Blk.grown {w w' : World} {g : Nat} {t : TypeId} {cs : List Value} {row : Option Nat} (h : Blk w g t cs) (hg : w.grownBy w' row) (hne : some g ≠ row) : Blk w' g t cs := (hg.block g h.lt hne).trans h
theorem own_turned {w w' : World} {base : Nat} {e : TypeId} {size n : Nat} {v : Value} {xs : List Value} {g : Nat} {t : TypeId} {cs : List Value} (h : w.ownsRow base e size v n xs) (hb : Blk w g t cs) (ht : t ≠ e) (hw : Turned g w w') : w'.ownsRow base e size v n xs := by
  have hne := own_ne h hb ht
  refine ⟨h.1, ?_⟩
  rcases h.2 with h0 | ⟨k, cap, cur, rfl, hg, hh, r⟩
  · exact .inl h0
  · exact .inr ⟨k, cap, cur, rfl, hg, by rw [hw.block k (fun hk => hne (by rw [hk]; rfl))]; exact hh, r⟩
theorem run_app2 {P : Program} {w : World} (t rt : TypeId) (base : Nat)
    (e : TypeId) (i : TypeInfo) (z : Value) (size bytes : Nat) (h1 : P.underlying t = some (.slice e)) (h2 : P.info? e = some i) (h3 : i.zero = some z) (h4 : i.size = size) (h5 : i.bytes = bytes) (h6 : z.cells.size = size) (h7 : 0 < size)
    (v : Value) (n : Nat) (xs : List Value) (hO : w.ownsRow base e size v n xs) (B : Nat) (A' : Option Addr) (m c : Nat) (ys : List Value) (hY : Sl w B A' size m ys)
    (h1c : ∀ u ∈ ys, u.oneCell' = true) (b1 : n + m ≤ maxLen) (b2 : (n + m) * bytes ≤ 140737488355328) (hb : base ≤ w.heap.size) :
    ∃ v' w', (Builtin.append_ #[t, t] rt #[v, .slice A' m c]).run P w = .ok v' w' ∧ w'.ownsRow base e size v' (n + m) (xs ++ ys) ∧ w.grownBy w' v.ownBlock := by
  rcases Nat.eq_zero_or_pos m with hm | hm
  · subst hm
    obtain rfl : ys = [] := List.length_eq_zero_iff.1 (by simpa using hY.1)
    refine ⟨v, w, ?_, by simpa using hO, grown_refl _ _⟩
    obtain ⟨A, cap, rfl, q1, q2⟩ := own_form hO
    cases A' with
    | none => cases A <;> simp [Builtin.append_, run_underlying h1, sizeOf, typeInfo, h2, Builtin.lenOf, Builtin.firstCells, storeCells, q1]
    | some a' => cases A <;> simp [Builtin.append_, run_underlying h1, sizeOf, typeInfo, h2, Builtin.lenOf, Builtin.firstCells, storeCells, loadCells, loadCellsFrom, q1]
  · obtain ⟨b', o', rfl, _, hcy⟩ := hY.2 (by rw [hY.1]; exact Nat.mul_pos hm h7)
    obtain ⟨v', w', hr, ho', hg, _⟩ := run_append_own (P := P) w base t rt e i z size bytes h1 h2 h3 h4 h5 h6 h7 v n xs hO _ m c ys hY.1 (fun j u hu => by rw [addr_add]; exact hcy j u hu) h1c b1 b2 hb
    exact ⟨v', w', hr, ho', hg⟩
/-- append onto a row of the call's own, the source a slice that may be nil or empty. -/
theorem wpList_app2 {P : Program} {w : World} {ops : Array Oper} {rest : List Oper} {o : Oper} {a : Act} {Q : Exit → Act → World → Prop} (hgd : o.guard = none) (s x : Operand) (t : TypeId)
    (ho : o.op = .call { callee := .builtin .append, args := #[s, x], argTypes := #[t, t] }) (base : Nat)
    (e : TypeId) (i : TypeInfo) (z : Value) (size bytes : Nat) (h1 : P.underlying t = some (.slice e)) (h2 : P.info? e = some i) (h3 : i.zero = some z) (h4 : i.size = size) (h5 : i.bytes = bytes) (h6 : z.cells.size = size) (h7 : 0 < size)
    (v : Value) (n : Nat) (xs : List Value) (hs : a.eval s = v) (hO : w.ownsRow base e size v n xs) (B : Nat) (A' : Option Addr) (m c : Nat) (ys : List Value) (hx : a.eval x = .slice A' m c) (hY : Sl w B A' size m ys)
    (h1c : ∀ u ∈ ys, u.oneCell' = true) (b1 : n + m ≤ maxLen) (b2 : (n + m) * bytes ≤ 140737488355328) (hb : base ≤ w.heap.size)
    (hK : ∀ v' w', w'.ownsRow base e size v' (n + m) (xs ++ ys) → w.grownBy w' v.ownBlock → wpList P ops Q rest (a.put o.dst v') w') : wpList P ops Q (o :: rest) a w :=
  wpList_plain hgd fun _ hK' => by
    obtain ⟨v', w', hr, q1, q2⟩ := run_app2 t o.type base e i z size bytes h1 h2 h3 h4 h5 h6 h7 v n xs hO B A' m c ys hY h1c b1 b2 hb
    unfold Oper.wp execOp
    simp only [ho, resolve, invoke, builtin, Sem.run_bind, Sem.run_pure, Result.andThen_ok, List.map_toArray, List.map_cons, List.map_nil, hs, hx, hr]
    exact hK' _ _ (hK v' w' q1 q2)

structure KeepT (B : Nat) (ts : List TypeId) (w w' : World) : Prop where
  os : w'.os = w.os
  tape : w'.tape = w.tape
  output : w'.output = w.output
  size : w.heap.size ≤ w'.heap.size
  low : ∀ (k : Nat), k < B → w'.heap[k]? = w.heap[k]?
  typ : ∀ (k : Nat) cs t f, w.heap[k]? = some (Obj.cells cs t f) → t ∉ ts → w'.heap[k]? = w.heap[k]?
section
variable {B B' : Nat} {ts ts' : List TypeId} {w0 w w' : World}
theorem KeepT.refl (B : Nat) (ts : List TypeId) (w : World) : KeepT B ts w w := ⟨rfl, rfl, rfl, Nat.le_refl _, fun _ _ => rfl, fun _ _ _ _ _ _ => rfl⟩
theorem KeepT.of_below (h : Below w.heap.size w w') (hB : B ≤ w.heap.size) : KeepT B ts w w' :=
  ⟨h.os, h.tape, h.output, h.size, fun k hk => h.block k (by omega), fun k _ _ _ hk _ => h.block k (Array.getElem?_eq_some_iff.1 hk).1⟩
theorem KeepT.trans (h1 : KeepT B ts w0 w) (h2 : KeepT B ts w w') : KeepT B ts w0 w' :=
  ⟨h2.os.trans h1.os, h2.tape.trans h1.tape, h2.output.trans h1.output, Nat.le_trans h1.size h2.size, fun k hk => (h2.low k hk).trans (h1.low k hk),
    fun k cs t f hk ht => (h2.typ k cs t f ((h1.typ k cs t f hk ht).trans hk) ht).trans (h1.typ k cs t f hk ht)⟩
theorem KeepT.below (h : KeepT B ts w w') : Below B w w' := ⟨h.os, h.tape, h.output, h.size, fun k hk => h.low k hk⟩
/-- A block that came up since has turned. -/
theorem KeepT.later (h : KeepT B ts w0 w) {g : Nat} (ht : Turned g w w') (hg : w0.heap.size ≤ g) (hB : B ≤ w0.heap.size) : KeepT B ts w0 w' :=
  ⟨ht.os.trans h.os, ht.tape.trans h.tape, ht.output.trans h.output, by rw [ht.size]; exact h.size, fun k hk => (ht.block k (by omega)).trans (h.low k hk),
    fun k cs t f hk hh => (ht.block k (by have := (Array.getElem?_eq_some_iff.1 hk).1; omega)).trans (h.typ k cs t f hk hh)⟩
/-- What came up since w0 may turn. -/
theorem KeepT.since (h : KeepT B ts w0 w) (hb : Below w0.heap.size w w') (hB : B ≤ w0.heap.size) : KeepT B ts w0 w' :=
  ⟨hb.os.trans h.os, hb.tape.trans h.tape, hb.output.trans h.output, Nat.le_trans h.size hb.size, fun k hk => (hb.block k (by omega)).trans (h.low k hk),
    fun k cs t f hk hh => (hb.block k (Array.getElem?_eq_some_iff.1 hk).1).trans (h.typ k cs t f hk hh)⟩
theorem KeepT.of_turned {g : Nat} {t : TypeId} {cs : List Value} (hb : Blk w g t cs) (ht : t ∈ ts) (hg : B ≤ g) (hw : Turned g w w') : KeepT B ts w w' :=
  ⟨hw.os, hw.tape, hw.output, by rw [hw.size]; exact Nat.le_refl _, fun k hk => hw.block k (by omega),
    fun k cs' t' f hk hh => hw.block k (fun hkg => by
      subst hkg
      unfold Blk at hb
      rw [hb] at hk
      injection hk with hk
      injection hk with _ hk
      exact hh (hk ▸ ht))⟩
theorem KeepT.wide (h : KeepT B ts w w') (hB : B' ≤ B) (hts : ∀ t ∈ ts, t ∈ ts') : KeepT B' ts' w w' :=
  ⟨h.os, h.tape, h.output, h.size, fun k hk => h.low k (by omega), fun k cs t f hk hh => h.typ k cs t f hk (fun hm => hh (hts t hm))⟩
theorem Blk.keepT {g : Nat} {t : TypeId} {cs : List Value} (h : Blk w g t cs) (hk : KeepT B ts w w') (ht : t ∉ ts) : Blk w' g t cs := (hk.typ g _ t _ h ht).trans h
theorem own_keepT {base : Nat} {e : TypeId} {size n : Nat} {v : Value} {xs : List Value} (h : w.ownsRow base e size v n xs) (hk : KeepT B ts w w') (ht : e ∉ ts) : w'.ownsRow base e size v n xs := by
  refine ⟨h.1, ?_⟩
  rcases h.2 with h0 | ⟨k, cap, cur, rfl, hg, hh, r⟩
  · exact .inl h0
  · exact .inr ⟨k, cap, cur, rfl, hg, (hk.typ k _ e _ hh ht).trans hh, r⟩
theorem KeepT.grown {base : Nat} {e : TypeId} {size n : Nat} {v : Value} {xs : List Value} (h : w.ownsRow base e size v n xs) (hg : w.grownBy w' v.ownBlock) (he : e ∈ ts) (hB : B ≤ base) (hs : B ≤ w.heap.size) : KeepT B ts w w' := by
  refine ⟨hg.os, hg.tape, hg.output, hg.size, fun k hk => ?_, fun k cs t f hk hh => ?_⟩
  · exact hg.block k (by omega) fun hc => by have := (h.lt k hc.symm).1; omega
  · refine hg.block k (Array.getElem?_eq_some_iff.1 hk).1 fun hc => ?_
    rcases h.2 with ⟨rfl, _⟩ | ⟨j, cap, cur, rfl, _, hj, _⟩
    · simp [Value.ownBlock] at hc
    · simp only [Value.ownBlock, Option.some.injEq] at hc
      subst hc
      rw [hj] at hk
      injection hk with hk
      injection hk with _ hk
      exact hh (hk ▸ he)
end

/-- Each condition holds as long as its operation has not come up. -/
def Hooks (L : List (Nat × (World → Prop))) (b : Array Bool) (w : World) : Prop := ∀ q ∈ L, b.getD q.1 true = false → q.2 w
theorem Hooks.nil (b : Array Bool) (w : World) : Hooks [] b w := fun q hq => by cases hq
theorem Hooks.add {t : Nat} {S : World → Prop} {L : List (Nat × (World → Prop))} {b : Array Bool} {w : World} (h : S w) (hL : Hooks L b w) : Hooks ((t, S) :: L) b w := fun q hq hb => by
  rcases List.mem_cons.1 hq with rfl | hq
  · exact h
  · exact hL q hq hb
theorem Hooks.skip {t : Nat} {S : World → Prop} {L : List (Nat × (World → Prop))} {b : Array Bool} {w : World} (h : b.getD t true = true) (hL : Hooks L b w) : Hooks ((t, S) :: L) b w := fun q hq hb => by
  rcases List.mem_cons.1 hq with rfl | hq
  · rw [h] at hb; cases hb
  · exact hL q hq hb
section
variable {P : Program} {md : Region.Mode} {ops : Array Oper} {Q : Exit → Act → World → Prop} {L : List (Nat × (World → Prop))}
def wpAnyL (P : Program) (md : Region.Mode) (ops : Array Oper) (Q : Exit → Act → World → Prop) (L : List (Nat × (World → Prop))) : Nat → Array Bool → Act → World → Prop
  | 0, b, a, w => Region.ready md ops b = [] ∧ Q .normal a w
  | fuel + 1, b, a, w =>
    (Region.ready md ops b = [] → Q .normal a w) ∧
    ∀ i ∈ Region.ready md ops b, wpOp P ops Q i (fun a' w' => Hooks L (b.setIfInBounds i true) w' ∧ wpAnyL P md ops Q L fuel (b.setIfInBounds i true) a' w') a w
theorem wpAny_of_L : ∀ (fuel : Nat) (b : Array Bool) (a : Act) (w : World), wpAnyL P md ops Q L fuel b a w → wpAny P md ops Q fuel b a w
  | 0, _, _, _, h => h
  | fuel + 1, _, _, _, h => ⟨h.1, fun i hi => wpOp_mono (fun a' w' h' => wpAny_of_L fuel _ a' w' h'.2) (h.2 i hi)⟩
theorem getD_set_true (b : Array Bool) (i t : Nat) (h : b.getD t true = true) : (b.setIfInBounds i true).getD t true = true := by
  by_cases hit : i = t
  · subst hit; exact set_self _ _
  · rw [getD_set_ne true hit]; exact h
theorem wpAnyL_of_any : ∀ (fuel : Nat) (b : Array Bool) (a : Act) (w : World), (∀ q ∈ L, b.getD q.1 true = true) → wpAny P md ops Q fuel b a w → wpAnyL P md ops Q L fuel b a w
  | 0, _, _, _, _, h => h
  | fuel + 1, b, _, _, hb, h => ⟨h.1, fun i hi => wpOp_mono (fun a' w' h' =>
      have hb' : ∀ q ∈ L, (b.setIfInBounds i true).getD q.1 true = true := fun q hq => getD_set_true b i q.1 (hb q hq)
      ⟨fun q hq hf => (by rw [hb' q hq] at hf; cases hf), wpAnyL_of_any fuel _ a' w' hb' h'⟩) (h.2 i hi)⟩
/-- Set or not, what is no operation of L's makes no difference to the conditions. -/
theorem Hooks.unset {i : Nat} {b : Array Bool} {w : World} (hi : ∀ q ∈ L, q.1 ≠ i) (h : Hooks L (b.setIfInBounds i true) w) : Hooks L b w := fun q hq hb =>
  h q hq (by rw [getD_set_ne true (Ne.symm (hi q hq))]; exact hb)
theorem Hooks.set {i : Nat} {b : Array Bool} {w : World} (hi : ∀ q ∈ L, q.1 ≠ i) (h : Hooks L b w) : Hooks L (b.setIfInBounds i true) w := fun q hq hb =>
  h q hq (by rw [getD_set_ne true (Ne.symm (hi q hq))] at hb; exact hb)
theorem wpAnyL_first {i t : Nat} {oi : Oper} {v : Value} {S : World → Prop} (hi : ops[i]? = some oi) (hsel : ∀ (j : Nat) (o : Oper) cs b, ops[j]? = some o → o.op ≠ .select cs b)
    (hQ : ∀ c a w, Q (.panic c) (a.put oi.dst v) w → Q (.panic c) a w) (hti : waitsB md ops t i = true) (hL : (t, S) ∈ L) (hno : ∀ q ∈ L, q.1 ≠ i) :
    ∀ (fuel : Nat) (listed : Array Bool) (a : Act) (w : World),
      (∀ j oj, ops[j]? = some oj → j ≠ i → listed.getD j true = false → (∀ e ∈ oj.after, Region.binds md e = true → e.on ≠ i) → oi.apart ops oj = true) →
      i ∈ Region.ready md ops listed → YieldsIf P ops S oi v a → Hooks L listed w → listed.getD t true = false →
      wpAnyL P md ops Q L fuel (listed.setIfInBounds i true) (a.put oi.dst v) w → wpAnyL P md ops Q L (fuel + 1) listed a w := by
  obtain ⟨hne, ot, et, hot, het, hbt, hon⟩ := waitsB_spec hti
  intro fuel
  induction fuel with
  | zero =>
    intro listed a w _ hr hy hS htl H
    refine ⟨fun h => (by rw [h] at hr; cases hr), fun j hj => ?_⟩
    by_cases hji : j = i
    · subst hji; exact hy.wpOp hi (hS _ hL htl) ⟨hS.set hno, H⟩
    · have := ready_mono hj hji
      rw [H.1] at this
      cases this
  | succ fuel ih =>
    intro listed a w hfree hr hy hS htl H
    refine ⟨fun h => (by rw [h] at hr; cases hr), fun j hj => ?_⟩
    by_cases hji : j = i
    · subst hji; exact hy.wpOp hi (hS _ hL htl) ⟨hS.set hno, H⟩
    · have h1 := H.2 j (ready_mono hj hji)
      obtain ⟨hjun, oj, hoj, hall⟩ := mem_ready.1 hj
      have hnot : ∀ e ∈ oj.after, Region.binds md e = true → e.on ≠ i := fun e he hb heq => by
        have h1 := hall e he hb
        have h0 := (mem_ready.1 hr).1
        rw [heq] at h1
        rcases Nat.lt_or_ge i listed.size with h' | h'
        · simp [h'] at h0 h1; rw [h0] at h1; cases h1
        · simp [Array.getElem?_eq_none h'] at h1
      have hjt : j ≠ t := fun he => by
        subst he
        rw [hoj] at hot
        obtain rfl := Option.some.inj hot
        exact hnot et het hbt hon
      have htl' : (listed.setIfInBounds j true).getD t true = false := by rw [getD_set_ne true hjt]; exact htl
      have h2 := wpOp_putIf hoj (hfree j oj hoj hji hjun hnot) (fun cs b => hsel i oi cs b hi) (fun cs b => hsel j oj cs b hoj) hQ hy h1
      have hfree' : ∀ k ok, ops[k]? = some ok → k ≠ i → (listed.setIfInBounds j true).getD k true = false →
          (∀ e ∈ ok.after, Region.binds md e = true → e.on ≠ i) → oi.apart ops ok = true := fun k ok hk hki hun hno' => by
        refine hfree k ok hk hki ?_ hno'
        by_cases hjk : j = k
        · subst hjk; exact hjun
        · rw [getD_set_ne true hjk] at hun; exact hun
      refine wpOp_mono (fun a' w' h3 => ?_) h2
      have hS2 : Hooks L (listed.setIfInBounds j true) w' := Hooks.unset hno (by rw [Array.setIfInBounds_comm _ _ hji]; exact h3.2.1)
      refine ⟨hS2, ih (listed.setIfInBounds j true) a' w' hfree' (ready_mono hr (Ne.symm hji)) h3.1 hS2 htl' ?_⟩
      rw [Array.setIfInBounds_comm _ _ hji]
      exact h3.2.2
theorem wpAnyL_freely {i : Nat} {oi : Oper} {v : Value} (hi : ops[i]? = some oi) (hsel : ∀ (j : Nat) (o : Oper) cs b, ops[j]? = some o → o.op ≠ .select cs b)
    (hQ : ∀ c a w, Q (.panic c) (a.put oi.dst v) w → Q (.panic c) a w) (hno : ∀ q ∈ L, q.1 ≠ i) :
    ∀ (fuel : Nat) (listed : Array Bool) (a : Act) (w : World),
      (∀ j oj, ops[j]? = some oj → j ≠ i → listed.getD j true = false → (∀ e ∈ oj.after, Region.binds md e = true → e.on ≠ i) → oi.apart ops oj = true) →
      i ∈ Region.ready md ops listed → YieldsIf P ops (fun _ => True) oi v a → Hooks L listed w →
      wpAnyL P md ops Q L fuel (listed.setIfInBounds i true) (a.put oi.dst v) w → wpAnyL P md ops Q L (fuel + 1) listed a w := by
  intro fuel
  induction fuel with
  | zero =>
    intro listed a w _ hr hy hS H
    refine ⟨fun h => (by rw [h] at hr; cases hr), fun j hj => ?_⟩
    by_cases hji : j = i
    · subst hji; exact hy.wpOp hi trivial ⟨hS.set hno, H⟩
    · have := ready_mono hj hji
      rw [H.1] at this
      cases this
  | succ fuel ih =>
    intro listed a w hfree hr hy hS H
    refine ⟨fun h => (by rw [h] at hr; cases hr), fun j hj => ?_⟩
    by_cases hji : j = i
    · subst hji; exact hy.wpOp hi trivial ⟨hS.set hno, H⟩
    · have h1 := H.2 j (ready_mono hj hji)
      obtain ⟨hjun, oj, hoj, hall⟩ := mem_ready.1 hj
      have hnot : ∀ e ∈ oj.after, Region.binds md e = true → e.on ≠ i := fun e he hb heq => by
        have h1 := hall e he hb
        have h0 := (mem_ready.1 hr).1
        rw [heq] at h1
        rcases Nat.lt_or_ge i listed.size with h' | h'
        · simp [h'] at h0 h1; rw [h0] at h1; cases h1
        · simp [Array.getElem?_eq_none h'] at h1
      have h2 := wpOp_putIf (S := fun _ => True) hoj (hfree j oj hoj hji hjun hnot) (fun cs b => hsel i oi cs b hi) (fun cs b => hsel j oj cs b hoj) hQ hy h1
      have hfree' : ∀ k ok, ops[k]? = some ok → k ≠ i → (listed.setIfInBounds j true).getD k true = false →
          (∀ e ∈ ok.after, Region.binds md e = true → e.on ≠ i) → oi.apart ops ok = true := fun k ok hk hki hun hno' => by
        refine hfree k ok hk hki ?_ hno'
        by_cases hjk : j = k
        · subst hjk; exact hjun
        · rw [getD_set_ne true hjk] at hun; exact hun
      refine wpOp_mono (fun a' w' h3 => ?_) h2
      have hS2 : Hooks L (listed.setIfInBounds j true) w' := Hooks.unset hno (by rw [Array.setIfInBounds_comm _ _ hji]; exact h3.2.1)
      refine ⟨hS2, ih (listed.setIfInBounds j true) a' w' hfree' (ready_mono hr (Ne.symm hji)) h3.1 hS2 ?_⟩
      rw [Array.setIfInBounds_comm _ _ hji]
      exact h3.2.2
/-- No operation of L's has the number i. -/
def freeB (L : List (Nat × (World → Prop))) (i : Nat) : Bool := L.all fun q => q.1 != i
theorem freeB_spec {i : Nat} (h : freeB L i = true) : ∀ q ∈ L, q.1 ≠ i := fun q hq => by
  have := List.all_eq_true.1 h q hq
  simpa using this
theorem wpAnyL_take (i t : Nat) {oi : Oper} (v : Value) (S : World → Prop) {fuel : Nat} {listed : Array Bool} {a : Act} {w : World} (hi : ops[i]? = some oi)
    (hs : Region.noSelect ops = true) (hf : Region.free md ops listed i = true) (hr : (Region.ready md ops listed).contains i = true) (hti : waitsB md ops t i = true) (htl : listed.getD t true = false) (hno : freeB L i = true) (hL : (t, S) ∈ L)
    (hQ : ∀ c a w, Q (.panic c) (a.put oi.dst v) w → Q (.panic c) a w) (hw : Region.wanted oi (yielded ops a.tmps) = true) (hy : ∀ w, S w → (execOp a.eval oi).run P w = .ok (.value v) w) (hS : Hooks L listed w)
    (h : wpAnyL P md ops Q L fuel (listed.setIfInBounds i true) (a.put oi.dst v) w) : wpAnyL P md ops Q L (fuel + 1) listed a w :=
  wpAnyL_first hi (Region.noSelect_spec hs) hQ hti hL (freeB_spec hno) fuel listed a w (Region.free_spec hi hf) (by simpa using hr) (.inl ⟨hw, hy⟩) hS htl h
theorem wpAnyL_move (i : Nat) {oi : Oper} (v : Value) {fuel : Nat} {listed : Array Bool} {a : Act} {w : World} (hi : ops[i]? = some oi)
    (hs : Region.noSelect ops = true) (hf : Region.free md ops listed i = true) (hr : (Region.ready md ops listed).contains i = true) (hno : freeB L i = true)
    (hQ : ∀ c a w, Q (.panic c) (a.put oi.dst v) w → Q (.panic c) a w) (hw : Region.wanted oi (yielded ops a.tmps) = true) (hy : ∀ w, (execOp a.eval oi).run P w = .ok (.value v) w) (hS : Hooks L listed w)
    (h : wpAnyL P md ops Q L fuel (listed.setIfInBounds i true) (a.put oi.dst v) w) : wpAnyL P md ops Q L (fuel + 1) listed a w :=
  wpAnyL_freely hi (Region.noSelect_spec hs) hQ (freeB_spec hno) fuel listed a w (Region.free_spec hi hf) (by simpa using hr) (.inl ⟨hw, fun w _ => hy w⟩) hS h
theorem wpAnyL_one (i : Nat) {o : Oper} {fuel : Nat} {listed : Array Bool} {a : Act} {w : World} (hr : Region.ready md ops listed = [i]) (ho : ops[i]? = some o)
    (h : ∀ K : Act → World → Prop, (∀ a' w', Hooks L (listed.setIfInBounds i true) w' → wpAnyL P md ops Q L fuel (listed.setIfInBounds i true) a' w' → K a' w') →
      wpList P ops (Exit.then K Q) [o] a w) : wpAnyL P md ops Q L (fuel + 1) listed a w := by
  refine ⟨fun h0 => (by rw [hr] at h0; cases h0), fun j hj => ?_⟩
  rw [hr, List.mem_singleton] at hj
  subst hj
  have h1 := h (fun a' w' => Hooks L (listed.setIfInBounds j true) w' ∧ wpAnyL P md ops Q L fuel (listed.setIfInBounds j true) a' w') (fun a' w' p q => ⟨p, q⟩)
  unfold wpOp
  simp only [ho]
  unfold wpList at h1
  split
  · rename_i hw
    rw [if_pos hw] at h1
    rcases h1 with h1 | ⟨h1, a0, w0, h2⟩
    · refine .inl ?_
      unfold Oper.wp at h1 ⊢
      generalize (execOp a.eval o).run P w = r at h1 ⊢
      cases r with
      | ok n w' =>
        cases n <;> simp only [Oper.upon] at h1 ⊢
        case value u => exact h1
        case skip => exact h1
        case defer d => exact h1
        case enter f args =>
          refine Calls.mono h1 fun e w'' he => ?_
          cases e <;> exact he
        case row row args => exact h1
      | halt x w' =>
        cases x <;> simp only [Oper.upon] at h1 ⊢
        case panic u => exact h1
    · exact .inr ⟨h1, a0, w0, h2⟩
  · rename_i hw
    rw [if_neg hw] at h1
    exact h1
/-- What is left, from operation t on, is forced; every condition's operation has come up, or stands next. -/
theorem wpAnyL_last {b : Array Bool} {t : Nat} (hr : Region.ready md ops b = [t]) (hL : (L.all fun q => b.getD q.1 true || q.1 == t) = true) :
    ∀ (fuel : Nat) (a : Act) (w : World), wpAny P md ops Q fuel b a w → wpAnyL P md ops Q L fuel b a w
  | 0, _, _, h => h
  | fuel + 1, _, _, h => ⟨h.1, fun i hi => wpOp_mono (fun a' w' h' => by
      have hit : i = t := by rw [hr, List.mem_singleton] at hi; exact hi
      subst hit
      have hb' : ∀ q ∈ L, (b.setIfInBounds i true).getD q.1 true = true := fun q hq => by
        have := List.all_eq_true.1 hL q hq
        simp only [Bool.or_eq_true, beq_iff_eq] at this
        rcases this with h0 | h0
        · exact getD_set_true b i q.1 h0
        · rw [h0]; exact set_self _ _
      exact ⟨fun q hq hf => (by rw [hb' q hq] at hf; cases hf), wpAnyL_of_any fuel _ a' w' hb' h'⟩) (h.2 i hi)⟩
end
theorem loads_begin {P : Program} {id : Nat} {Q : Exit → Act → World → Prop} {a : Act} {w : World} {l : List Oper} (L : List (Nat × (World → Prop))) (hm : P.follows .mixedOrders = true)
    (h : wpAnyL P .any l.toArray Q L l.length (Array.replicate l.length false) a w.drew) : (Code.region id l.toArray true).wp P Q a w := by
  refine wp_region_any hm ?_
  have := wpAny_of_L _ _ _ _ h
  simpa using this
/-- The beginning, the number of operations written out: the goals stay small. -/
theorem loads_begin_n {P : Program} {id : Nat} {Q : Exit → Act → World → Prop} {a : Act} {w : World} {l : List Oper} (n : Nat) (L : List (Nat × (World → Prop))) (hn : l.length = n) (hm : P.follows .mixedOrders = true)
    (h : wpAnyL P .any l.toArray Q L n (Array.replicate n false) a w.drew) : (Code.region id l.toArray true).wp P Q a w := by
  subst hn
  exact loads_begin L hm h
theorem loads_tail {P : Program} {Q : Exit → Act → World → Prop} {a : Act} {w : World} {l : List Oper} {L : List (Nat × (World → Prop))} (t : Nat) {listed : Array Bool} {fuel : Nat} (hf : fuel = l.length - t) (hr : Region.ready .any l.toArray listed = [t])
    (hL : (L.all fun q => listed.getD q.1 true || q.1 == t) = true) (hB : Region.seqB .any l.toArray (l.length - t) t listed = true) (h : wpList P l.toArray Q (l.drop t) a w) : wpAnyL P .any l.toArray Q L fuel listed a w := by
  subst hf
  have h2 := wpAny_of_seq (md := .any) (Q' := Q) (l.drop t) t listed a w (fun j => by simp [List.getElem?_drop]) (by rw [List.length_drop]; exact hB) h
  rw [List.length_drop] at h2
  exact wpAnyL_last hr hL _ _ _ h2
theorem loads_done {P : Program} {md : Region.Mode} {ops : Array Oper} {Q : Exit → Act → World → Prop} {L : List (Nat × (World → Prop))} {listed : Array Bool} {a : Act} {w : World} {fuel : Nat} (hr : Region.ready md ops listed = []) (h : Q .normal a w) : wpAnyL P md ops Q L fuel listed a w := by
  cases fuel with
  | zero => exact ⟨hr, h⟩
  | succ n => exact ⟨fun _ => h, by rw [hr]; simp⟩

end Go.Proofs.YtpjgmekpnlpjaaaDoor
