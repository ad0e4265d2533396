/-
  Appending onto a row of the call's own, said with the one block that may turn. No program stands behind this text.
-/
import Derived.Test.YtefalanfkihcdaaDoorOnce
import Derived.Test.YtefalanfkihcdaaDoorDig
import Derived.Great.BuildSlice
namespace Go.Proofs.YtefalanfkihcdaaDoor
open Go.RowKit
set_option linter.unusedVariables false

theorem grown_refl (w : World) (row : Option Nat) : w.grownBy w row := ⟨rfl, rfl, rfl, Nat.le_refl _, fun _ _ _ => rfl⟩
theorem own_ne {w : World} {base : Nat} {e : TypeId} {size n : Nat} {v : Value} {xs : List Value} {g : Nat} {t : TypeId} {cs : List Value} (h : w.ownsRow base e size v n xs) (hb : Blk w g t cs) (ht : t ≠ e) : some g ≠ v.ownBlock := by
  rcases h.2 with ⟨rfl, _⟩ | ⟨k, cap, cur, rfl, _, hk, _⟩
  · simp [Value.ownBlock]
  · intro hc
    simp only [Value.ownBlock, Option.some.injEq] at hc
    subst hc
    unfold Blk at hb
    rw [hk] at hb
    injection hb with hb
    injection hb with _ hb
    exact ht hb.symm
theorem Blk.grown {w w' : World} {g : Nat} {t : TypeId} {cs : List Value} {row : Option Nat} (h : Blk w g t cs) (hg : w.grownBy w' row) (hne : some g ≠ row) : Blk w' g t cs := (hg.block g h.lt hne).trans h
theorem own_turned {w w' : World} {base : Nat} {e : TypeId} {size n : Nat} {v : Value} {xs : List Value} {g : Nat} {t : TypeId} {cs : List Value} (h : w.ownsRow base e size v n xs) (hb : Blk w g t cs) (ht : t ≠ e) (hw : Turned g w w') : w'.ownsRow base e size v n xs := by
  have hne := own_ne h hb ht
  refine ⟨h.1, ?_⟩
  rcases h.2 with h0 | ⟨k, cap, cur, rfl, hg, hh, r⟩
  · exact .inl h0
  · exact .inr ⟨k, cap, cur, rfl, hg, by rw [hw.block k (fun hk => hne (by rw [hk]; rfl))]; exact hh, r⟩
theorem run_app2 {P : Program} {w : World} (t rt : TypeId) (base : Nat)
    (e : TypeId) (i : TypeInfo) (z : Value) (size bytes : Nat) (h1 : P.underlying t = some (.slice e)) (h2 : P.info? e = some i) (h3 : i.zero = some z) (h4 : i.size = size) (h5 : i.bytes = bytes) (h6 : z.cells.size = size) (h7 : 0 < size)
    (v : Value) (n : Nat) (xs : List Value) (hO : w.ownsRow base e size v n xs) (B : Nat) (A' : Option Addr) (m c : Nat) (ys : List Value) (hY : Sl w B A' size m ys)
    (h1c : ∀ u ∈ ys, u.oneCell' = true) (b1 : n + m ≤ maxLen) (b2 : (n + m) * bytes ≤ 140737488355328) (hb : base ≤ w.heap.size) :
    ∃ v' w', (Builtin.append_ #[t, t] rt #[v, .slice A' m c]).run P w = .ok v' w' ∧ w'.ownsRow base e size v' (n + m) (xs ++ ys) ∧ w.grownBy w' v.ownBlock := by
  rcases Nat.eq_zero_or_pos m with hm | hm
  · subst hm
    obtain rfl : ys = [] := List.length_eq_zero_iff.1 (by simpa using hY.1)
    refine ⟨v, w, ?_, by simpa using hO, grown_refl _ _⟩
    obtain ⟨A, cap, rfl, q1, q2⟩ := own_form hO
    cases A' with
    | none => cases A <;> simp [Builtin.append_, run_underlying h1, sizeOf, typeInfo, h2, Builtin.lenOf, Builtin.firstCells, storeCells, q1]
    | some a' => cases A <;> simp [Builtin.append_, run_underlying h1, sizeOf, typeInfo, h2, Builtin.lenOf, Builtin.firstCells, storeCells, loadCells, loadCellsFrom, q1]
  · obtain ⟨b', o', rfl, _, hcy⟩ := hY.2 (by rw [hY.1]; exact Nat.mul_pos hm h7)
    obtain ⟨v', w', hr, ho', hg, _⟩ := run_append_own (P := P) w base t rt e i z size bytes h1 h2 h3 h4 h5 h6 h7 v n xs hO _ m c ys hY.1 (fun j u hu => by rw [addr_add]; exact hcy j u hu) h1c b1 b2 hb
    exact ⟨v', w', hr, ho', hg⟩
/-- append onto a row of the call's own, the source a slice that may be nil or empty. -/
theorem wpList_app2 {P : Program} {w : World} {ops : Array Oper} {rest : List Oper} {o : Oper} {a : Act} {Q : Exit → Act → World → Prop} (hgd : o.guard = none) (s x : Operand) (t : TypeId)
    (ho : o.op = .call { callee := .builtin .append, args := #[s, x], argTypes := #[t, t] }) (base : Nat)
    (e : TypeId) (i : TypeInfo) (z : Value) (size bytes : Nat) (h1 : P.underlying t = some (.slice e)) (h2 : P.info? e = some i) (h3 : i.zero = some z) (h4 : i.size = size) (h5 : i.bytes = bytes) (h6 : z.cells.size = size) (h7 : 0 < size)
    (v : Value) (n : Nat) (xs : List Value) (hs : a.eval s = v) (hO : w.ownsRow base e size v n xs) (B : Nat) (A' : Option Addr) (m c : Nat) (ys : List Value) (hx : a.eval x = .slice A' m c) (hY : Sl w B A' size m ys)
    (h1c : ∀ u ∈ ys, u.oneCell' = true) (b1 : n + m ≤ maxLen) (b2 : (n + m) * bytes ≤ 140737488355328) (hb : base ≤ w.heap.size)
    (hK : ∀ v' w', w'.ownsRow base e size v' (n + m) (xs ++ ys) → w.grownBy w' v.ownBlock → wpList P ops Q rest (a.put o.dst v') w') : wpList P ops Q (o :: rest) a w :=
  wpList_plain hgd fun _ hK' => by
    obtain ⟨v', w', hr, q1, q2⟩ := run_app2 t o.type base e i z size bytes h1 h2 h3 h4 h5 h6 h7 v n xs hO B A' m c ys hY h1c b1 b2 hb
    unfold Oper.wp execOp
    simp only [ho, resolve, invoke, builtin, Sem.run_bind, Sem.run_pure, Result.andThen_ok, List.map_toArray, List.map_cons, List.map_nil, hs, hx, hr]
    exact hK' _ _ (hK v' w' q1 q2)

theorem fill_dig (z : Array Value) (d : List UInt8) (hd : d.length = 16) (hz : z.size = 16) : Instr.fill (fun i => some (i * 16, 16)) z [(0, dv d)] = some (d.map bv).toArray := by
  have hc : (dv d).cells = (d.map bv).toArray := rfl
  obtain ⟨r, hr, hsz, hk⟩ := Great.fill_dense (s := 16) (by omega) [dv d] 0 z (by intro v hv; rw [List.mem_singleton] at hv; subst hv; rw [hc]; simp [hd]) (by simp [hz])
  have e : r = (d.map bv).toArray := by
    apply Array.ext_getElem?
    intro k
    rw [hk k]
    by_cases h : k < 16
    · have h1 : k / 16 = 0 := by omega
      have h2 : k % 16 = k := by omega
      rw [if_pos (by simp; omega), h1, h2, Nat.sub_zero]
      simp [hc]
    · rw [if_neg (by simp; omega)]
      simp [hz, hd, Nat.le_of_not_lt h]
  rw [← e, ← hr]
  rfl

theorem Tryd.infoDig : (Tryd.prog.info? 30).map (fun i => (i.zero, i.size, i.bytes)) = some (some (.agg (List.replicate 16 (Value.int .u8 0)).toArray), 16, 16) := by kernel_rfl
/-- A new block of one digest, as a slice. -/
theorem sl_dig (w : World) (d : List UInt8) (hd : d.length = 16) : Sl (w.alloc (.cells (d.map bv).toArray 30)) (w.heap.size + 1) (some ⟨w.heap.size, 0, none⟩) 16 1 (d.map bv) :=
  ⟨by rw [List.length_map, hd], fun _ => ⟨w.heap.size, 0, rfl, Nat.lt_succ_self _, fun j v hj => by rw [(Blk.new w 30 (d.map bv)).cell, Nat.zero_add]; exact hj⟩⟩

end Go.Proofs.YtefalanfkihcdaaDoor
