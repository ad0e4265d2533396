/-
  Appending onto a row of the call's own: from a slice that may be nil or empty, and from one new byte. No program stands behind this text.
-/
import Derived.Test.YtefalanfkihcdaaDoorQuiet
namespace Go.Proofs.YtefalanfkihcdaaDoor
open Go.RowKit
set_option linter.unusedVariables false

theorem own_empty (w : World) (e : TypeId) (size : Nat) : (w.alloc (.cells #[] e)).ownsRow w.heap.size e size (.slice (some ⟨w.heap.size, 0, none⟩) 0 0) 0 [] :=
  ⟨by simp, .inr ⟨w.heap.size, 0, #[], rfl, Nat.le_refl _, heap_alloc_new w _, Nat.le_refl _, by decide, by simp, by simp⟩⟩
theorem own_low {w : World} {base base' : Nat} {e : TypeId} {size n : Nat} {v : Value} {xs : List Value} (h : w.ownsRow base e size v n xs) (hb : base' ≤ base) : w.ownsRow base' e size v n xs :=
  ⟨h.1, h.2.imp id fun ⟨g, cp, cur, q1, q2, q3⟩ => ⟨g, cp, cur, q1, Nat.le_trans hb q2, q3⟩⟩
theorem at_append {P : Program} {ops : Array Oper} {rest : List Oper} {Q : Exit → Act → World → Prop} {a : Act} {w : World} {xs : Array Operand} {ts : Array TypeId} {d t p f g}
    (h : wpList P ops Q ({ dst := d, op := .call { callee := .builtin .append, args := xs, argTypes := ts }, type := t, pos := p, after := f, guard := g } :: rest) a w) :
    wpList P ops Q ({ dst := d, op := .call { callee := .builtin .append, args := xs, argTypes := ts }, type := t, pos := p, after := f, guard := g } :: rest) a w := h
theorem run_app {P : Program} {w : World} (t rt : TypeId) (base : Nat)
    (e : TypeId) (i : TypeInfo) (z : Value) (size bytes : Nat) (h1 : P.underlying t = some (.slice e)) (h2 : P.info? e = some i) (h3 : i.zero = some z) (h4 : i.size = size) (h5 : i.bytes = bytes) (h6 : z.cells.size = size) (h7 : 0 < size)
    (v : Value) (n : Nat) (xs : List Value) (hO : w.ownsRow base e size v n xs) (B : Nat) (A' : Option Addr) (m c : Nat) (ys : List Value) (hY : Sl w B A' size m ys)
    (h1c : ∀ u ∈ ys, u.oneCell' = true) (b1 : n + m ≤ maxLen) (b2 : (n + m) * bytes ≤ 140737488355328) (hb : base ≤ w.heap.size) :
    ∃ v' w', (Builtin.append_ #[t, t] rt #[v, .slice A' m c]).run P w = .ok v' w' ∧ w'.ownsRow base e size v' (n + m) (xs ++ ys) ∧ Below base w w' := by
  rcases Nat.eq_zero_or_pos m with hm | hm
  · subst hm
    obtain rfl : ys = [] := List.length_eq_zero_iff.1 (by simpa using hY.1)
    refine ⟨v, w, ?_, by simpa using hO, Below.refl _ _⟩
    obtain ⟨A, cap, rfl, q1, q2⟩ := own_form hO
    cases A' with
    | none => cases A <;> simp [Builtin.append_, run_underlying h1, sizeOf, typeInfo, h2, Builtin.lenOf, Builtin.firstCells, storeCells, q1]
    | some a' => cases A <;> simp [Builtin.append_, run_underlying h1, sizeOf, typeInfo, h2, Builtin.lenOf, Builtin.firstCells, storeCells, loadCells, loadCellsFrom, q1]
  · obtain ⟨b', o', rfl, _, hcy⟩ := hY.2 (by rw [hY.1]; exact Nat.mul_pos hm h7)
    obtain ⟨v', w', hr, ho', hg, _⟩ := run_append_own (P := P) w base t rt e i z size bytes h1 h2 h3 h4 h5 h6 h7 v n xs hO _ m c ys hY.1 (fun j u hu => by rw [addr_add]; exact hcy j u hu) h1c b1 b2 hb
    exact ⟨v', w', hr, ho', below_grown (Below.refl _ _) hO (Nat.le_refl _) hb hg⟩
/-- append onto a row of the call's own, the source a slice that may be nil or empty. -/
theorem wpList_app {P : Program} {w : World} {ops : Array Oper} {rest : List Oper} {o : Oper} {a : Act} {Q : Exit → Act → World → Prop} (hgd : o.guard = none) (s x : Operand) (t : TypeId)
    (ho : o.op = .call { callee := .builtin .append, args := #[s, x], argTypes := #[t, t] }) (base : Nat)
    (e : TypeId) (i : TypeInfo) (z : Value) (size bytes : Nat) (h1 : P.underlying t = some (.slice e)) (h2 : P.info? e = some i) (h3 : i.zero = some z) (h4 : i.size = size) (h5 : i.bytes = bytes) (h6 : z.cells.size = size) (h7 : 0 < size)
    (v : Value) (n : Nat) (xs : List Value) (hs : a.eval s = v) (hO : w.ownsRow base e size v n xs) (B : Nat) (A' : Option Addr) (m c : Nat) (ys : List Value) (hx : a.eval x = .slice A' m c) (hY : Sl w B A' size m ys)
    (h1c : ∀ u ∈ ys, u.oneCell' = true) (b1 : n + m ≤ maxLen) (b2 : (n + m) * bytes ≤ 140737488355328) (hb : base ≤ w.heap.size)
    (hK : ∀ v' w', w'.ownsRow base e size v' (n + m) (xs ++ ys) → Below base w w' → wpList P ops Q rest (a.put o.dst v') w') : wpList P ops Q (o :: rest) a w :=
  wpList_plain hgd fun _ hK' => by
    obtain ⟨v', w', hr, q1, q2⟩ := run_app t o.type base e i z size bytes h1 h2 h3 h4 h5 h6 h7 v n xs hO B A' m c ys hY h1c b1 b2 hb
    unfold Oper.wp execOp
    simp only [ho, resolve, invoke, builtin, Sem.run_bind, Sem.run_pure, Result.andThen_ok, List.map_toArray, List.map_cons, List.map_nil, hs, hx, hr]
    exact hK' _ _ (hK v' w' q1 q2)
/-- One new cell as a slice. -/
theorem sl_one (w : World) (t : TypeId) (u : Value) : Sl (w.alloc (.cells #[u] t)) (w.heap.size + 1) (some ⟨w.heap.size, 0, none⟩) 1 1 [u] :=
  ⟨rfl, fun _ => ⟨w.heap.size, 0, rfl, Nat.lt_succ_self _, fun j v hj => by rw [show (w.alloc (.cells #[u] t)).cell? ⟨w.heap.size, 0 + j, none⟩ = [u][0 + j]? from (Blk.new w t [u]).cell _, Nat.zero_add]; exact hj⟩⟩
theorem below_new (w : World) (o : Obj) : Below w.heap.size w (w.alloc o) := (Below.refl _ _).alloc (Nat.le_refl _) _
theorem ones_one {u : Value} (h : u.oneCell' = true) : ∀ v ∈ [u], v.oneCell' = true := fun v hv => by rw [List.mem_singleton] at hv; subst hv; exact h
theorem own_is {w : World} {base : Nat} {e : TypeId} {size n n' : Nat} {v : Value} {xs xs' : List Value} (h : w.ownsRow base e size v n xs) (hn : n = n') (hx : xs = xs') : Hid (w.ownsRow base e size v n' xs') := by
  subst hn hx; exact h

end Go.Proofs.YtefalanfkihcdaaDoor
