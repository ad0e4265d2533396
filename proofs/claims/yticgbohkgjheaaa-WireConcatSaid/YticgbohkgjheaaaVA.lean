/-
  append onto a row of the call's own, the source a slice that may be nil or empty.
-/
import Derived.Test.YticgbohkgjheaaaV
namespace Go.Proofs.Yticgbohkgjheaaa
open Go.RowKit
set_option linter.unusedVariables false

section
variable {P : Program}
/-- append onto a row of the call's own, the source a slice that may be nil or empty. -/
theorem wp_append_any_ (w : World) {o : Oper} {a : Act} {K : Act → World → Prop} {Q : Exit → Act → World → Prop} (s x : Operand) (t : TypeId)
    (ho : o.op = .call { callee := .builtin .append, args := #[s, x], argTypes := #[t, t] }) (base : Nat)
    (e : TypeId) (i : TypeInfo) (z : Value) (size bytes : Nat) (h1 : P.underlying t = some (.slice e)) (h2 : P.info? e = some i) (h3 : i.zero = some z) (h4 : i.size = size) (h5 : i.bytes = bytes) (h6 : z.cells.size = size) (h7 : 0 < size)
    (v : Value) (n : Nat) (xs : List Value) (hs : a.eval s = v) (hO : w.ownsRow base e size v n xs) (A' : Option Addr) (m c : Nat) (ys : List Value) (hx : a.eval x = .slice A' m c) (hY : Sl w w.heap.size A' size m ys)
    (h1c : ∀ u ∈ ys, u.oneCell' = true) (b1 : n + m ≤ maxLen) (b2 : (n + m) * bytes ≤ 140737488355328) (hb : base ≤ w.heap.size)
    (hK : ∀ A2 c2 w', n + m ≤ c2 → c2 ≤ maxLen → Sl w' w'.heap.size A2 size (n + m) (xs ++ ys) → Below base w w' → K (a.put o.dst (.slice A2 (n + m) c2)) w') : o.wp P a w K Q := by
  have hrun : ∃ A2 c2 w', (Builtin.append_ #[t, t] o.type #[v, .slice A' m c]).run P w = .ok (.slice A2 (n + m) c2) w' ∧ n + m ≤ c2 ∧ c2 ≤ maxLen ∧ Sl w' w'.heap.size A2 size (n + m) (xs ++ ys) ∧ Below base w w' := by
    rcases Nat.eq_zero_or_pos m with hm | hm
    · subst hm
      obtain rfl : ys = [] := List.length_eq_zero_iff.1 (by simpa using hY.1)
      obtain ⟨A, cap, rfl, q1, q2⟩ := own_form hO
      refine ⟨A, cap, w, ?_, q1, q2, by simpa using Sl.of_own hO, Below.refl _ _⟩
      cases A' with
      | none => cases A <;> simp [Builtin.append_, run_underlying h1, sizeOf, typeInfo, h2, Builtin.lenOf, Builtin.firstCells, storeCells, q1]
      | some a' => cases A <;> simp [Builtin.append_, run_underlying h1, sizeOf, typeInfo, h2, Builtin.lenOf, Builtin.firstCells, storeCells, loadCells, loadCellsFrom, q1]
    · obtain ⟨b', o', rfl, _, hcy⟩ := hY.2 (by rw [hY.1]; exact Nat.mul_pos hm h7)
      obtain ⟨v', w', hr, ho', hg, _⟩ := run_append_own (P := P) w base t o.type e i z size bytes h1 h2 h3 h4 h5 h6 h7 v n xs hO _ m c ys hY.1 (fun j u hu => by rw [addr_add]; exact hcy j u hu) h1c b1 b2 hb
      obtain ⟨A2, c2, rfl, q1, q2⟩ := own_form ho'
      exact ⟨A2, c2, w', hr, q1, q2, Sl.of_own ho', below_grown (Below.refl _ _) hO (Nat.le_refl _) hb hg⟩
  obtain ⟨A2, c2, w', hr, q1, q2, q3, q4⟩ := hrun
  unfold Oper.wp execOp
  simp only [ho, resolve, invoke, builtin, Sem.run_bind, Sem.run_pure, Result.andThen_ok, List.map_toArray, List.map_cons, List.map_nil, hs, hx, hr]
  exact hK A2 c2 w' q1 q2 q3 q4
theorem wpList_append_any_ (w : World) {ops : Array Oper} {rest : List Oper} {o : Oper} {a : Act} {Q : Exit → Act → World → Prop} (hgd : o.guard = none) (s x : Operand) (t : TypeId)
    (ho : o.op = .call { callee := .builtin .append, args := #[s, x], argTypes := #[t, t] }) (base : Nat)
    (e : TypeId) (i : TypeInfo) (z : Value) (size bytes : Nat) (h1 : P.underlying t = some (.slice e)) (h2 : P.info? e = some i) (h3 : i.zero = some z) (h4 : i.size = size) (h5 : i.bytes = bytes) (h6 : z.cells.size = size) (h7 : 0 < size)
    (v : Value) (n : Nat) (xs : List Value) (hs : a.eval s = v) (hO : w.ownsRow base e size v n xs) (A' : Option Addr) (m c : Nat) (ys : List Value) (hx : a.eval x = .slice A' m c) (hY : Sl w w.heap.size A' size m ys)
    (h1c : ∀ u ∈ ys, u.oneCell' = true) (b1 : n + m ≤ maxLen) (b2 : (n + m) * bytes ≤ 140737488355328) (hb : base ≤ w.heap.size)
    (hK : ∀ A2 c2 w', n + m ≤ c2 → c2 ≤ maxLen → Sl w' w'.heap.size A2 size (n + m) (xs ++ ys) → Below base w w' → wpList P ops Q rest (a.put o.dst (.slice A2 (n + m) c2)) w') : wpList P ops Q (o :: rest) a w :=
  wpList_plain hgd fun _ hK' => wp_append_any_ w s x t ho base e i z size bytes h1 h2 h3 h4 h5 h6 h7 v n xs hs hO A' m c ys hx hY h1c b1 b2 hb fun A2 c2 w' q1 q2 q3 q4 => hK' _ _ (hK A2 c2 w' q1 q2 q3 q4)
end

end Go.Proofs.Yticgbohkgjheaaa
