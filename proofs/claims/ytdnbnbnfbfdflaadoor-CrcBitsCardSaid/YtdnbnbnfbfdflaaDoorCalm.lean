/-
  A region that draws its order, whose head leaves every world of a class in the class and reads the same in all of them, and whose tail is forced. No program stands behind this text.
-/
import Derived.Test.YtdnbnbnfbfdflaaDoorQuiet
import Derived.StillTail
import Derived.Deep.Quiet
namespace Go.Proofs.YtdnbnbnfbfdflaaDoor
open Go.RowKit
set_option linter.unusedVariables false

section
variable {P : Program} {md : Region.Mode} {ops : Array Oper} {C : World → Prop}
/-- Any order of the head's operations, of which f are still to come. -/
def Heads (P : Program) (md : Region.Mode) (ops : Array Oper) (C : World → Prop) (n : Nat) (T : Array Bool → Act → Prop) : Nat → Array Bool → Act → Prop
  | 0, b, a => T b a
  | f + 1, b, a => Region.ready md ops b ≠ [] ∧ ∀ i, i ∈ Region.ready md ops b → i < n ∧ qOp P ops C i (Heads P md ops C n T f (b.setIfInBounds i true)) a
theorem Heads.any {n g : Nat} {T : Array Bool → Act → Prop} {Q : Exit → Act → World → Prop} (hT : ∀ b a w, C w → T b a → wpAny P md ops Q g b a w) :
    ∀ (f : Nat) (b : Array Bool) (a : Act) (w : World), C w → Heads P md ops C n T f b a → wpAny P md ops Q (f + g) b a w := by
  intro f
  induction f with
  | zero => intro b a w hw h; rw [Nat.zero_add]; exact hT b a w hw h
  | succ f ih =>
    intro b a w hw h
    rw [Nat.add_right_comm]
    refine ⟨fun he => absurd he h.1, fun i hi => ?_⟩
    exact wpOp_of_qOp hw (fun a' w' hw' h' => ih _ a' w' hw' h') (h.2 i hi).2
/-- While an operation of the head is to come, none of the tail's may come up. -/
theorem head_only {n i : Nat} {b : Array Bool} (hs : Region.sinkB md ops n = true) (hc : Region.chainB md ops n = true) (hn : n < ops.size) (hv : HeadInv md ops n b) (hi : i ∈ Region.ready md ops b) (hin : i < n) :
    ∀ j ∈ Region.ready md ops b, j < n := fun j hj =>
  Nat.lt_of_not_le fun hnj => tail_waits hs hc hn hv (n - i) i rfl hin (mem_ready.1 hi).1 j hnj hj
/-- The operation that stands next in the text may be taken first. -/
theorem Heads.next {n i : Nat} {o : Oper} {v : Value} {T : Array Bool → Act → Prop} (hi : ops[i]? = some o) (hsel : ∀ (j : Nat) (o : Oper) cs b, ops[j]? = some o → o.op ≠ .select cs b)
    (hs : Region.sinkB md ops n = true) (hc : Region.chainB md ops n = true) (hn : n < ops.size) (hin : i < n) (hT : ∀ b a, T b a → ∀ j ∈ Region.ready md ops b, n ≤ j) :
    ∀ (f : Nat) (b : Array Bool) (a : Act), HeadInv md ops n b →
      (∀ j oj, ops[j]? = some oj → j ≠ i → b.getD j true = false → (∀ e ∈ oj.after, Region.binds md e = true → e.on ≠ i) → o.apart ops oj = true) →
      i ∈ Region.ready md ops b → YieldsIn P ops C o v a → Heads P md ops C n T f (b.setIfInBounds i true) (a.put o.dst v) → Heads P md ops C n T (f + 1) b a := by
  intro f
  induction f with
  | zero =>
    intro b a hv hfree hr hy H
    have only := head_only hs hc hn hv hr hin
    refine ⟨fun he => (by rw [he] at hr; cases hr), fun j hj => ⟨only j hj, ?_⟩⟩
    rcases Decidable.em (j = i) with rfl | hji
    · exact hy.qOp hi H
    · exact absurd (hT _ _ H j (ready_mono hj hji)) (Nat.not_le_of_lt (only j hj))
  | succ f ih =>
    intro b a hv hfree hr hy H
    have only := head_only hs hc hn hv hr hin
    refine ⟨fun he => (by rw [he] at hr; cases hr), fun j hj => ⟨only j hj, ?_⟩⟩
    rcases Decidable.em (j = i) with rfl | hji
    · exact hy.qOp hi H
    · obtain ⟨hbj, oj, hoj, hdone⟩ := mem_ready.1 hj
      have hnot : ∀ e ∈ oj.after, Region.binds md e = true → e.on ≠ i := fun e he hb heq => by
        have h0 := hdone e he hb
        rw [heq, getD_both (mem_ready.1 hr).1] at h0
        cases h0
      refine qOp_mono (fun a' h3 => ?_) (qOp_put hoj (hfree j oj hoj hji hbj hnot) (fun cs s => hsel i o cs s hi) (fun cs s => hsel j oj cs s hoj) hy (H.2 j (ready_mono hj hji)).2)
      refine ih _ a' (hv.set hj (only j hj)) (fun k ok hk hki hbk hno => hfree k ok hk hki ?_ hno) (ready_mono hr (Ne.symm hji)) h3.1 (by rw [Array.setIfInBounds_comm _ _ hji]; exact h3.2)
      rcases Decidable.em (j = k) with rfl | hjk
      · exact hbj
      · rwa [getD_set_ne true hjk] at hbk
/-- The head in the order of the text. -/
theorem Heads.lex {n g : Nat} {R : Act → Prop} (hsel : Region.noSelect ops = true) (hs : Region.sinkB md ops n = true) (hc : Region.chainB md ops n = true) (hn : n < ops.size) :
    ∀ (l : List Oper) (k : Nat) (b : Array Bool) (a : Act), (∀ j, j < l.length → l[j]? = ops[k + j]?) → k + l.length = n → HeadInv md ops n b → Region.lexHead md ops g l.length k b = true → wpQuiet P ops C R l a →
      Heads P md ops C n (fun b' a' => Region.seqB md ops g n b' = true ∧ R a') l.length b a := by
  intro l
  induction l with
  | nil =>
    intro k b a _ hk _ hB h
    obtain rfl : k = n := by simpa using hk
    exact ⟨by simpa [Region.lexHead] using hB, h⟩
  | cons o l ih =>
    intro k b a hl hk hv hB h
    have ho : ops[k]? = some o := by have := hl 0 (Nat.succ_pos _); simpa using this.symm
    rw [List.length_cons] at hk hB
    simp only [Region.lexHead, Bool.and_eq_true] at hB
    have hr : k ∈ Region.ready md ops b := by simpa using hB.1.1
    obtain ⟨v, hy, hK⟩ := yieldsIn_of_qOp (C := C) (K := wpQuiet P ops C R l) ho (by unfold qOp; simp only [ho]; exact h)
    refine Heads.next ho (Region.noSelect_spec hsel) hs hc hn (by omega) (fun b' a' hL => seqB_ready hL.1) l.length b a hv (Region.free_spec ho hB.1.2) hr hy ?_
    exact ih (k + 1) _ _ (fun j hj => by have := hl (j + 1) (by rw [List.length_cons]; omega); rw [List.getElem?_cons_succ] at this; rw [this, Nat.add_right_comm, Nat.add_assoc]) (by omega) (hv.set hr (by omega)) hB.2 hK
end
/-- One walk in the order of the text serves every order. -/
theorem calm_tail {P : Program} {C : World → Prop} {id : Nat} {Q : Exit → Act → World → Prop} {a : Act} {w : World} {l : List Oper} (n : Nat) (hm : P.follows .mixedOrders = true) (hB : Region.lexTailB .any l.toArray n = true) (hC : C w.drew)
    (h : wpQuiet P l.toArray C (fun a' => ∀ w', C w' → wpList P l.toArray Q (l.drop n) a' w') (l.take n) a) : (Code.region id l.toArray true).wp P Q a w := by
  simp only [Region.lexTailB, Bool.and_eq_true, decide_eq_true_eq] at hB
  have hsz : l.toArray.size = l.length := by simp
  have hn : n < l.length := by have := hB.1.1.1.2; rwa [hsz] at this
  have ht : (l.take n).length = n := by rw [List.length_take]; omega
  have hd : (l.drop n).length = l.toArray.size - n := by rw [List.length_drop, hsz]
  have hv : HeadInv .any l.toArray n (Array.replicate l.toArray.size false) :=
    ⟨by simp, fun j oj _ hj => (by rw [getD_replicate_false] at hj; cases hj), fun t _ h => getD_in (by simpa using h) (getD_replicate_false _ _)⟩
  have H := Heads.lex (g := l.toArray.size - n) hB.1.1.1.1 hB.1.1.2 hB.1.2 hB.1.1.1.2 (l.take n) 0 _ a (fun j hj => by
    rw [ht] at hj
    simp [hj]) (by rw [ht, Nat.zero_add]) hv (by rw [ht]; exact hB.2) h
  refine wp_region_any hm ?_
  have := Heads.any (Q := Q) (g := l.toArray.size - n) (fun b a' w' hw' hL => by
    have := wpAny_of_seq (md := .any) (Q' := Q) (l.drop n) n b a' w' (fun j => by simp [List.getElem?_drop]) (by rw [hd]; exact hL.1) (hL.2 w' hw')
    rwa [hd] at this) _ _ _ _ hC H
  rwa [ht, show n + (l.toArray.size - n) = l.toArray.size by omega] at this

end Go.Proofs.YtdnbnbnfbfdflaaDoor
