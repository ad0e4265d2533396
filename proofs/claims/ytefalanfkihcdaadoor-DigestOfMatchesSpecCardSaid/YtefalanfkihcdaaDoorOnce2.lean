/-
  A region that draws its order, gone through operation by operation: more moves; arrays of bytes compared. No program stands behind this text.
-/
import Derived.Test.YtefalanfkihcdaaDoorOnce
import Derived.Test.YtefalanfkihcdaaDoorDig
import Derived.Test.YtefalanfkihcdaaDoorPut
namespace Go.Proofs.YtefalanfkihcdaaDoor
open Go.RowKit
set_option linter.unusedVariables false

section
variable {P : Program} {md : Region.Mode} {ops : Array Oper} {Q : Exit → Act → World → Prop} {S : World → Prop} {t : Nat}
theorem wpAnyU_drop {fuel : Nat} {listed : Array Bool} {a : Act} {w : World} (ht : listed.getD t true = true) (h : wpAnyU P md ops Q (fun _ => True) t fuel listed a w) : wpAnyU P md ops Q S t fuel listed a w :=
  wpAnyU_of_any _ _ _ _ ht (wpAny_of_U _ _ _ _ h)
theorem set_self (b : Array Bool) (i : Nat) : (b.setIfInBounds i true).getD i true = true := by
  rw [Array.getD_eq_getD_getElem?, Array.getElem?_setIfInBounds]
  simp only [if_true]
  by_cases hlt : i < b.size <;> simp [hlt]
/-- Operation t stands next, alone: behind it nothing is asked of the worlds. -/
theorem wpAnyU_at {o : Oper} {fuel : Nat} {listed : Array Bool} {a : Act} {w : World} (hr : Region.ready md ops listed = [t]) (ho : ops[t]? = some o)
    (h : ∀ K : Act → World → Prop, (∀ a' w', wpAnyU P md ops Q (fun _ => True) t fuel (listed.setIfInBounds t true) a' w' → K a' w') → wpList P ops (Exit.then K Q) [o] a w) : wpAnyU P md ops Q S t (fuel + 1) listed a w :=
  wpAnyU_one t hr ho fun K hK => h K fun a' w' h' => hK a' w' (fun hf => (by rw [set_self] at hf; cases hf)) (wpAnyU_drop (set_self _ _) h')
/-- The same, and another condition on the worlds from there on. -/
theorem wpAnyU_on (S' : World → Prop) (t' : Nat) {o : Oper} {fuel : Nat} {listed : Array Bool} {a : Act} {w : World} (hr : Region.ready md ops listed = [t]) (ho : ops[t]? = some o)
    (h : ∀ K : Act → World → Prop, (∀ a' w', wpAnyU P md ops Q S' t' fuel (listed.setIfInBounds t true) a' w' → K a' w') → wpList P ops (Exit.then K Q) [o] a w) : wpAnyU P md ops Q S t (fuel + 1) listed a w :=
  wpAnyU_one t hr ho fun K hK => h K fun a' w' h' => hK a' w' (fun hf => (by rw [set_self] at hf; cases hf)) (wpAnyU_of_any _ _ _ _ (set_self _ _) (wpAny_of_U _ _ _ _ h'))
theorem wpAnyU_done {listed : Array Bool} {a : Act} {w : World} {fuel : Nat} (hr : Region.ready md ops listed = []) (h : Q .normal a w) : wpAnyU P md ops Q S t fuel listed a w := by
  cases fuel with
  | zero => exact ⟨hr, h⟩
  | succ n => exact ⟨fun _ => h, by rw [hr]; simp⟩
end
theorem exec_load_blk {P : Program} {ev : Operand → Value} {W : World} {o : Oper} {ty : TypeId} {x : Operand} {g : Nat} {t : TypeId} {cs : List Value} (ho : o.op = .load ty x) (hx : ev x = .pointer (some ⟨g, 0, none⟩)) (hg : Blk W g t cs) (d : TypeDesc)
    (hu : P.underlying ty = some d) (hd : d.isRow = true) (hi : (P.info? ty).map (·.size) = some cs.length) : (execOp ev o).run P W = .ok (.value (.agg cs.toArray)) W := by
  unfold execOp
  simp only [ho, hx, Sem.run_bind, run_load_blk hg ty d hu hd hi, Result.andThen_ok, Sem.run_pure]
theorem equal_bytes (T : TypeId) (n : Nat) (hT : Tryd.prog.underlying T = some (.array n 5)) (a b : List UInt8) (ha : a.length = n) (hb : b.length = n) (w : World) :
    (Op.equalIn 10000 T (.agg (a.map bv).toArray) (.agg (b.map bv).toArray)).run Tryd.prog w = .ok (decide (a = b)) w := by
  obtain ⟨i, hi, h⟩ : ∃ i, Tryd.prog.info? 5 = some i ∧ True := by
    have h5 : (Tryd.prog.info? 5).isSome = true := by kernel_rfl
    obtain ⟨i, hi⟩ := Option.isSome_iff_exists.1 h5
    exact ⟨i, hi, trivial⟩
  have hc : Tryd.prog.cellsOf 5 = 1 := by kernel_rfl
  rw [show (10000 : Nat) = 9998 + 1 + 1 from rfl, run_equalIn_array w (9998 + 1) _ _ (t := T) (e := 5) (n := n) hT hi, hc,
    eqItems_bytes Tryd.underlying5 (fun w => by kernel_rfl) 9998 a b w (List.range n) (fun i hi => by rw [List.mem_range] at hi; omega)]
  congr 1
  rw [Bool.eq_iff_iff, List.all_eq_true, decide_eq_true_iff]
  constructor
  · intro h
    apply List.ext_getElem?
    intro i
    by_cases hi : i < n
    · simpa using h i (List.mem_range.2 hi)
    · rw [List.getElem?_eq_none (by omega), List.getElem?_eq_none (by omega)]
  · rintro rfl i _
    simp

end Go.Proofs.YtefalanfkihcdaaDoor
