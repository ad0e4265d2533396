/-
  append onto a slice without spare room, whatever the source; a slice cut to its own length.
-/
import Derived.Test.YticgbohkgjheaaaSan
import Derived.Test.YticgbohkgjheaaaThm
import Derived.Test.YticgbohkgjheaaaArgs
namespace Go.Proofs.Yticgbohkgjheaaa
open Go.RowKit
set_option linter.unusedVariables false

section
variable {P : Program}
theorem cut_full {T e : TypeId} {size : Nat} (hT : P.underlying T = some (.slice e)) (hs : ∀ W, (sizeOf e).run P W = .ok size W) (A : Option Addr) {n cap : Nat} (hn : n ≤ cap) :
    ∃ A', (∀ W, (Instr.sliceAt T (.slice A n cap) none (some (.int .i64 (n : Int))) (some (.int .i64 (n : Int)))).run P W = .ok (.slice A' n n) W) ∧
      ∀ w B xs, Sl w B A size n xs → Sl w B A' size n xs := by
  have hel : P.elem T = e := by simp [Program.elem, hT]
  refine ⟨if n = 0 then A else A.map (·.add (0 * size)), fun W => ?_, fun w B xs h => ?_⟩
  · rw [run_sliceAt_slice W T _ _ _ _ (by rw [hel]; exact hT), run_slice_hm W T A n cap (by rw [hel]; exact hT) .i64 .i64 n n (by omega) (by omega) (by omega), hel, hs]
    simp only [Result.andThen, sliced, Int.toNat_natCast, Nat.sub_zero]
  · have := h.drop (k := 0) (cap := n) (Nat.zero_le _) (Nat.le_refl _)
    simpa using this

theorem wp_append_full (w : World) {o : Oper} {a : Act} {K : Act → World → Prop} {Q : Exit → Act → World → Prop} (s x : Operand) (t : TypeId)
    (ho : o.op = .call { callee := .builtin .append, args := #[s, x], argTypes := #[t, t] })
    (e : TypeId) (i : TypeInfo) (z : Value) (size bytes : Nat) (h1 : P.underlying t = some (.slice e)) (h2 : P.info? e = some i) (h3 : i.zero = some z) (h4 : i.size = size) (h5 : i.bytes = bytes) (h6 : z.cells.size = size) (h7 : 0 < size)
    (A : Option Addr) (n : Nat) (xs : List Value) (hs : a.eval s = .slice A n n) (hS : Sl w w.heap.size A size n xs) (A' : Option Addr) (m c : Nat) (ys : List Value) (hx : a.eval x = .slice A' m c) (hY : Sl w w.heap.size A' size m ys)
    (h1c : ∀ u ∈ ys, u.oneCell' = true) (b1 : n + m ≤ maxLen) (b2 : (n + m) * bytes ≤ 140737488355328)
    (hK : ∀ A2 c2 w', n + m ≤ c2 → c2 ≤ maxLen → Sl w' w'.heap.size A2 size (n + m) (xs ++ ys) → Below w.heap.size w w' → K (a.put o.dst (.slice A2 (n + m) c2)) w') : o.wp P a w K Q := by
  have hrun : ∃ A2 c2 w', (Builtin.append_ #[t, t] o.type #[.slice A n n, .slice A' m c]).run P w = .ok (.slice A2 (n + m) c2) w' ∧ n + m ≤ c2 ∧ c2 ≤ maxLen ∧ Sl w' w'.heap.size A2 size (n + m) (xs ++ ys) ∧ Below w.heap.size w w' := by
    rcases Nat.eq_zero_or_pos m with hm | hm
    · subst hm
      obtain rfl : ys = [] := List.length_eq_zero_iff.1 (by simpa using hY.1)
      refine ⟨A, n, w, ?_, Nat.le_refl _, by omega, by simpa using hS, Below.refl _ _⟩
      cases A' with
      | none => cases A <;> simp [Builtin.append_, run_underlying h1, sizeOf, typeInfo, h2, Builtin.lenOf, Builtin.firstCells, storeCells]
      | some a' => cases A <;> simp [Builtin.append_, run_underlying h1, sizeOf, typeInfo, h2, Builtin.lenOf, Builtin.firstCells, storeCells, loadCells, loadCellsFrom]
    · have hyl : 0 < ys.length := by rw [hY.1]; exact Nat.mul_pos hm h7
      obtain ⟨b', o', rfl, _, hcy⟩ := hY.2 hyl
      have hnews : ∀ j u, ys[j]? = some u → w.cell? ((⟨b', o', none⟩ : Addr).add j) = some u := fun j u hu => by rw [addr_add]; exact hcy j u hu
      have fin : ∀ v' w', w'.ownsRow w.heap.size e size v' (n + m) (xs ++ ys) → w.grownBy w' none → ∃ A2 c2, v' = .slice A2 (n + m) c2 ∧ n + m ≤ c2 ∧ c2 ≤ maxLen ∧ Sl w' w'.heap.size A2 size (n + m) (xs ++ ys) ∧ Below w.heap.size w w' := by
        intro v' w' ho hg
        obtain ⟨A2, c2, rfl, q1, q2⟩ := own_form ho
        exact ⟨A2, c2, rfl, q1, q2, Sl.of_own ho, (Below.refl _ _).grown hg (Nat.le_refl _) (by simp)⟩
      rcases Nat.eq_zero_or_pos n with hn | hn
      · subst hn
        obtain rfl : xs = [] := List.length_eq_zero_iff.1 (by simpa using hS.1)
        cases A with
        | none =>
          obtain ⟨v', w', hr, ho, hg, _⟩ := run_append_own (P := P) w w.heap.size t o.type e i z size bytes h1 h2 h3 h4 h5 h6 h7 (.slice none 0 0) 0 [] (World.ownsRow_nil _ _ _ _) _ m c ys hY.1 hnews h1c b1 b2 (Nat.le_refl _)
          obtain ⟨A2, c2, rfl, q1, q2, q3, q4⟩ := fin v' w' ho hg
          exact ⟨A2, c2, w', hr, q1, q2, q3, q4⟩
        | some a' =>
          obtain ⟨v', w', hr, ho, hg⟩ := run_append_arg_grows (P := P) w t o.type e i z size bytes h1 h2 h3 h4 h5 h6 h7 a' 0 0 [] (by simp) (by simp) _ m c ys hY.1 hnews (by omega) b1 b2
          obtain ⟨A2, c2, rfl, q1, q2, q3, q4⟩ := fin v' w' ho hg
          exact ⟨A2, c2, w', hr, q1, q2, q3, q4⟩
      · obtain ⟨b, o1, rfl, _, hcx⟩ := hS.2 (by rw [hS.1]; exact Nat.mul_pos hn h7)
        obtain ⟨v', w', hr, ho, hg⟩ := run_append_arg_grows (P := P) w t o.type e i z size bytes h1 h2 h3 h4 h5 h6 h7 ⟨b, o1, none⟩ n n xs hS.1 (fun j u hu => by rw [addr_add]; exact hcx j u hu) _ m c ys hY.1 hnews (by omega) b1 b2
        obtain ⟨A2, c2, rfl, q1, q2, q3, q4⟩ := fin v' w' ho hg
        exact ⟨A2, c2, w', hr, q1, q2, q3, q4⟩
  obtain ⟨A2, c2, w', hr, q1, q2, q3, q4⟩ := hrun
  unfold Oper.wp execOp
  simp only [ho, resolve, invoke, builtin, Sem.run_bind, Sem.run_pure, Result.andThen_ok, List.map_toArray, List.map_cons, List.map_nil, hs, hx, hr]
  exact hK A2 c2 w' q1 q2 q3 q4

theorem wpList_append_full (w : World) {ops : Array Oper} {rest : List Oper} {o : Oper} {a : Act} {Q : Exit → Act → World → Prop} (hgd : o.guard = none) (s x : Operand) (t : TypeId)
    (ho : o.op = .call { callee := .builtin .append, args := #[s, x], argTypes := #[t, t] })
    (e : TypeId) (i : TypeInfo) (z : Value) (size bytes : Nat) (h1 : P.underlying t = some (.slice e)) (h2 : P.info? e = some i) (h3 : i.zero = some z) (h4 : i.size = size) (h5 : i.bytes = bytes) (h6 : z.cells.size = size) (h7 : 0 < size)
    (A : Option Addr) (n : Nat) (xs : List Value) (hs : a.eval s = .slice A n n) (hS : Sl w w.heap.size A size n xs) (A' : Option Addr) (m c : Nat) (ys : List Value) (hx : a.eval x = .slice A' m c) (hY : Sl w w.heap.size A' size m ys)
    (h1c : ∀ u ∈ ys, u.oneCell' = true) (b1 : n + m ≤ maxLen) (b2 : (n + m) * bytes ≤ 140737488355328)
    (hK : ∀ A2 c2 w', n + m ≤ c2 → c2 ≤ maxLen → Sl w' w'.heap.size A2 size (n + m) (xs ++ ys) → Below w.heap.size w w' → wpList P ops Q rest (a.put o.dst (.slice A2 (n + m) c2)) w') : wpList P ops Q (o :: rest) a w :=
  wpList_plain hgd fun _ hK' => wp_append_full w s x t ho e i z size bytes h1 h2 h3 h4 h5 h6 h7 A n xs hs hS A' m c ys hx hY h1c b1 b2 fun A2 c2 w' q1 q2 q3 q4 => hK' _ _ (hK A2 c2 w' q1 q2 q3 q4)
end

end Go.Proofs.Yticgbohkgjheaaa
