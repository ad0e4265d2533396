/-
  Calls inside regions that only read, and regions with a tail: small laws. No program stands behind this text.
  Appending onto a row of the call's own: from a slice that may be nil or empty, and from one new byte. No program stands behind this text.
  A store of a whole array, the world behind it under a name of its own. No program stands behind this text.
  Operations behind a guard that let them by. No program stands behind this text.
  A region that draws its order, whose head leaves every world of a class in the class and reads the same in all of them, and whose tail is forced. No program stands behind this text.
-/
import Derived.Test.YtpjgmekpnlpjaaaDoorLib
import Derived.Deep.QuietTactic
import Derived.BigQuiet
import Derived.StillTailTactics
import Derived.StillTail
import Derived.Deep.Quiet
namespace Go.Proofs.YtpjgmekpnlpjaaaDoor
open Go.RowKit
set_option linter.unusedVariables false

/-- What a callee that only reads leaves: in the first such region, and behind others. -/
def Reads (P : Program) (f : FuncId) (args : Array Value) (v : Value) : Prop := ∀ W : World, Calls P f args W fun e w' => e = .returned v ∧ ∃ m, w' = W.drewN m
section
variable {P : Program} {f : FuncId} {args : Array Value} {w : World} {a n : Nat} {v : Value}
theorem Reads.one (h : Reads P f args v) : Calls P f args (w.drewN n) fun e w' => e = .returned v ∧ ∃ m, w' = w.drewN m :=
  (h (w.drewN n)).mono fun _ _ ⟨he, m, hm⟩ => ⟨he, n + m, by rw [hm, World.drewN_drewN]⟩
theorem Reads.two (h : Reads P f args v) : Calls P f args (w.drewN (a + n)) fun e w' => e = .returned v ∧ ∃ m, w' = w.drewN (a + m) :=
  (h (w.drewN (a + n))).mono fun _ _ ⟨he, m, hm⟩ => ⟨he, n + m, by rw [hm, World.drewN_drewN, Nat.add_assoc]⟩
end
theorem drewN_drew (w : World) (n : Nat) : (w.drewN n).drew = w.drewN (n + 1) := rfl
theorem below_drewN {B : Nat} {w0 w : World} (h : Below B w0 w) (n : Nat) : Below B w0 (w.drewN n) := h.trans ⟨rfl, rfl, rfl, Nat.le_refl _, fun _ _ => rfl⟩
/-- Which operation stands next: to be asked with reducible eyes, ahead of a law. -/
theorem at_load {P : Program} {ops : Array Oper} {rest : List Oper} {Q : Exit → Act → World → Prop} {a : Act} {w : World} {ty : TypeId} {x : Operand} {d t p f g}
    (h : wpList P ops Q ({ dst := d, op := .load ty x, type := t, pos := p, after := f, guard := g } :: rest) a w) : wpList P ops Q ({ dst := d, op := .load ty x, type := t, pos := p, after := f, guard := g } :: rest) a w := h
theorem at_store {P : Program} {ops : Array Oper} {rest : List Oper} {Q : Exit → Act → World → Prop} {a : Act} {w : World} {ty : TypeId} {x y : Operand} {d t p f g}
    (h : wpList P ops Q ({ dst := d, op := .store ty x y, type := t, pos := p, after := f, guard := g } :: rest) a w) : wpList P ops Q ({ dst := d, op := .store ty x y, type := t, pos := p, after := f, guard := g } :: rest) a w := h
/-- A region whose operations only read, up to the n-th; then the tail, in order. -/
theorem still_tail {P : Program} {id : Nat} {Q : Exit → Act → World → Prop} {a : Act} {w : World} {l : List Oper} (n : Nat) (hm : P.follows .mixedOrders = true) (hB : Region.lexTailB .any l.toArray n = true)
    (h : ∀ w2 : World, w2 = w.drew → wpStill P l.toArray w2 (fun a' => wpList P l.toArray Q (l.drop n) a' w2) (l.take n) a) : (Code.region id l.toArray true).wp P Q a w :=
  wp_region_still_tail n hm hB (h _ rfl)

theorem below_row {B : Nat} {w0 w : World} (h : Below B w0 w) {g : Nat} (hg : B ≤ g) (cs : Array Value) : Below B w0 (w.setRow g cs) :=
  ⟨h.os, h.tape, h.output, by simpa using h.size, fun k hk => (setRow_other w g k cs (by omega)).trans (h.block k hk)⟩
theorem Blk.row {w : World} {g : Nat} {t : TypeId} {cs : List Value} (h : Blk w g t cs) (cs' : List Value) : Blk (w.setRow g cs'.toArray) g t cs' := setRow_heap w g _ _ t _ h
theorem Blk.row_other {w : World} {g k : Nat} {t : TypeId} {cs : List Value} (h : Blk w g t cs) (hk : g ≠ k) (cs' : Array Value) : Blk (w.setRow k cs') g t cs := (setRow_other w k g cs' hk).trans h
theorem Blk.store_other {w : World} {g k i : Nat} {t : TypeId} {cs : List Value} {u : Value} (h : Blk w g t cs) (hk : g ≠ k) : Blk (w.setCell ⟨k, i, none⟩ u) g t cs := (heap_setCell_other w ⟨k, i, none⟩ g u hk).trans h
theorem Blk.size_info {P : Program} {w : World} {g : Nat} {t : TypeId} {cs : List Value} (h : Blk w g t cs) : w.heap[g]? = some (.cells cs.toArray t (0, 0)) := h
theorem at_build {P : Program} {ops : Array Oper} {rest : List Oper} {Q : Exit → Act → World → Prop} {a : Act} {w : World} {ty : TypeId} {x : Array (Nat × Operand)} {d t p f g}
    (h : wpList P ops Q ({ dst := d, op := .build ty x, type := t, pos := p, after := f, guard := g } :: rest) a w) : wpList P ops Q ({ dst := d, op := .build ty x, type := t, pos := p, after := f, guard := g } :: rest) a w := h
/-- A composite literal, its cells written out. -/
theorem wpList_build_is {P : Program} {ops : Array Oper} {rest : List Oper} {o : Oper} {a : Act} {w : World} {Q : Exit → Act → World → Prop} (hg : o.guard = none) (t : TypeId) (parts : Array (Nat × Operand)) (ho : o.op = .build t parts)
    (cells : Array Value) (hb : P.built t (parts.map fun (i, x) => (i, a.eval x)).toList = some cells) (h : wpList P ops Q rest (a.put o.dst (.agg cells)) w) : wpList P ops Q (o :: rest) a w :=
  wpList_build hg t parts ho (by rw [hb]; rfl) (by rw [hb]; exact h)
theorem at_make {P : Program} {ops : Array Oper} {rest : List Oper} {Q : Exit → Act → World → Prop} {a : Act} {w : World} {ty : TypeId} {x y : Operand} {d t p f g}
    (h : wpList P ops Q ({ dst := d, op := .makeSlice ty x y, type := t, pos := p, after := f, guard := g } :: rest) a w) : wpList P ops Q ({ dst := d, op := .makeSlice ty x y, type := t, pos := p, after := f, guard := g } :: rest) a w := h
theorem at_copy {P : Program} {ops : Array Oper} {rest : List Oper} {Q : Exit → Act → World → Prop} {a : Act} {w : World} {xs : Array Operand} {ts : Array TypeId} {d t p f g}
    (h : wpList P ops Q ({ dst := d, op := .call { callee := .builtin .copy, args := xs, argTypes := ts }, type := t, pos := p, after := f, guard := g } :: rest) a w) :
    wpList P ops Q ({ dst := d, op := .call { callee := .builtin .copy, args := xs, argTypes := ts }, type := t, pos := p, after := f, guard := g } :: rest) a w := h
theorem Blk.new2 (w : World) (X : Obj) (t : TypeId) (cs : List Value) : Blk ((w.alloc X).alloc (.cells cs.toArray t)) (w.heap.size + 1) t cs := by
  have h := Blk.new (w.alloc X) t cs
  rw [show (w.alloc X).heap.size = w.heap.size + 1 by simp] at h
  exact h
/-- A load in the head of a region with a tail. -/
theorem still_load {P : Program} {ops : Array Oper} {rest : List Oper} {Q : Act → Prop} {a : Act} {w : World} {o : Oper} (hgd : o.guard = none) (ty : TypeId) (x : Operand) (ho : o.op = .load ty x) (v : Value)
    (hrun : (Instr.loadAt ty (a.eval x)).run P w = .ok v w) (h : wpStill P ops w Q rest (a.put o.dst v)) : wpStill P ops w Q (o :: rest) a :=
  wpStill_step fun K hK => by
    rw [if_pos (by simp [Region.wanted, hgd])]
    unfold Oper.still execOp
    simp only [ho, Sem.run_bind, hrun, Result.andThen_ok, Sem.run_pure, Oper.stillUpon_value]
    exact hK _ h
theorem run_load_blk {P : Program} {w : World} {g : Nat} {t : TypeId} {cs : List Value} (hg : Blk w g t cs) (ty : TypeId) (d : TypeDesc) (hu : P.underlying ty = some d) (hd : d.isRow = true) (hi : (P.info? ty).map (·.size) = some cs.length) :
    (Instr.loadAt ty (.pointer (some ⟨g, 0, none⟩))).run P w = .ok (.agg cs.toArray) w :=
  run_loadAt_mid w g 0 ty cs d (fun j v hv => by rw [hg.cell, Nat.zero_add]; exact hv) hu hd hi

theorem own_empty (w : World) (e : TypeId) (size : Nat) : (w.alloc (.cells #[] e)).ownsRow w.heap.size e size (.slice (some ⟨w.heap.size, 0, none⟩) 0 0) 0 [] :=
  ⟨by simp, .inr ⟨w.heap.size, 0, #[], rfl, Nat.le_refl _, heap_alloc_new w _, Nat.le_refl _, by decide, by simp, by simp⟩⟩
theorem own_low {w : World} {base base' : Nat} {e : TypeId} {size n : Nat} {v : Value} {xs : List Value} (h : w.ownsRow base e size v n xs) (hb : base' ≤ base) : w.ownsRow base' e size v n xs :=
  ⟨h.1, h.2.imp id fun ⟨g, cp, cur, q1, q2, q3⟩ => ⟨g, cp, cur, q1, Nat.le_trans hb q2, q3⟩⟩
theorem at_append {P : Program} {ops : Array Oper} {rest : List Oper} {Q : Exit → Act → World → Prop} {a : Act} {w : World} {xs : Array Operand} {ts : Array TypeId} {d t p f g}
    (h : wpList P ops Q ({ dst := d, op := .call { callee := .builtin .append, args := xs, argTypes := ts }, type := t, pos := p, after := f, guard := g } :: rest) a w) :
    wpList P ops Q ({ dst := d, op := .call { callee := .builtin .append, args := xs, argTypes := ts }, type := t, pos := p, after := f, guard := g } :: rest) a w := h
theorem run_app {P : Program} {w : World} (t rt : TypeId) (base : Nat)
    (e : TypeId) (i : TypeInfo) (z : Value) (size bytes : Nat) (h1 : P.underlying t = some (.slice e)) (h2 : P.info? e = some i) (h3 : i.zero = some z) (h4 : i.size = size) (h5 : i.bytes = bytes) (h6 : z.cells.size = size) (h7 : 0 < size)
    (v : Value) (n : Nat) (xs : List Value) (hO : w.ownsRow base e size v n xs) (B : Nat) (A' : Option Addr) (m c : Nat) (ys : List Value) (hY : Sl w B A' size m ys)
    (h1c : ∀ u ∈ ys, u.oneCell' = true) (b1 : n + m ≤ maxLen) (b2 : (n + m) * bytes ≤ 140737488355328) (hb : base ≤ w.heap.size) :
    ∃ v' w', (Builtin.append_ #[t, t] rt #[v, .slice A' m c]).run P w = .ok v' w' ∧ w'.ownsRow base e size v' (n + m) (xs ++ ys) ∧ Below base w w' := by
  rcases Nat.eq_zero_or_pos m with hm | hm
  · subst hm
    obtain rfl : ys = [] := List.length_eq_zero_iff.1 (by simpa using hY.1)
    refine ⟨v, w, ?_, by simpa using hO, Below.refl _ _⟩
    obtain ⟨A, cap, rfl, q1, q2⟩ := own_form hO
    cases A' with
    | none => cases A <;> simp [Builtin.append_, run_underlying h1, sizeOf, typeInfo, h2, Builtin.lenOf, Builtin.firstCells, storeCells, q1]
    | some a' => cases A <;> simp [Builtin.append_, run_underlying h1, sizeOf, typeInfo, h2, Builtin.lenOf, Builtin.firstCells, storeCells, loadCells, loadCellsFrom, q1]
  · obtain ⟨b', o', rfl, _, hcy⟩ := hY.2 (by rw [hY.1]; exact Nat.mul_pos hm h7)
    obtain ⟨v', w', hr, ho', hg, _⟩ := run_append_own (P := P) w base t rt e i z size bytes h1 h2 h3 h4 h5 h6 h7 v n xs hO _ m c ys hY.1 (fun j u hu => by rw [addr_add]; exact hcy j u hu) h1c b1 b2 hb
    exact ⟨v', w', hr, ho', below_grown (Below.refl _ _) hO (Nat.le_refl _) hb hg⟩
/-- append onto a row of the call's own, the source a slice that may be nil or empty. -/
theorem wpList_app {P : Program} {w : World} {ops : Array Oper} {rest : List Oper} {o : Oper} {a : Act} {Q : Exit → Act → World → Prop} (hgd : o.guard = none) (s x : Operand) (t : TypeId)
    (ho : o.op = .call { callee := .builtin .append, args := #[s, x], argTypes := #[t, t] }) (base : Nat)
    (e : TypeId) (i : TypeInfo) (z : Value) (size bytes : Nat) (h1 : P.underlying t = some (.slice e)) (h2 : P.info? e = some i) (h3 : i.zero = some z) (h4 : i.size = size) (h5 : i.bytes = bytes) (h6 : z.cells.size = size) (h7 : 0 < size)
    (v : Value) (n : Nat) (xs : List Value) (hs : a.eval s = v) (hO : w.ownsRow base e size v n xs) (B : Nat) (A' : Option Addr) (m c : Nat) (ys : List Value) (hx : a.eval x = .slice A' m c) (hY : Sl w B A' size m ys)
    (h1c : ∀ u ∈ ys, u.oneCell' = true) (b1 : n + m ≤ maxLen) (b2 : (n + m) * bytes ≤ 140737488355328) (hb : base ≤ w.heap.size)
    (hK : ∀ v' w', w'.ownsRow base e size v' (n + m) (xs ++ ys) → Below base w w' → wpList P ops Q rest (a.put o.dst v') w') : wpList P ops Q (o :: rest) a w :=
  wpList_plain hgd fun _ hK' => by
    obtain ⟨v', w', hr, q1, q2⟩ := run_app t o.type base e i z size bytes h1 h2 h3 h4 h5 h6 h7 v n xs hO B A' m c ys hY h1c b1 b2 hb
    unfold Oper.wp execOp
    simp only [ho, resolve, invoke, builtin, Sem.run_bind, Sem.run_pure, Result.andThen_ok, List.map_toArray, List.map_cons, List.map_nil, hs, hx, hr]
    exact hK' _ _ (hK v' w' q1 q2)
/-- One new cell as a slice. -/
theorem sl_one (w : World) (t : TypeId) (u : Value) : Sl (w.alloc (.cells #[u] t)) (w.heap.size + 1) (some ⟨w.heap.size, 0, none⟩) 1 1 [u] :=
  ⟨rfl, fun _ => ⟨w.heap.size, 0, rfl, Nat.lt_succ_self _, fun j v hj => by rw [show (w.alloc (.cells #[u] t)).cell? ⟨w.heap.size, 0 + j, none⟩ = [u][0 + j]? from (Blk.new w t [u]).cell _, Nat.zero_add]; exact hj⟩⟩
theorem below_new (w : World) (o : Obj) : Below w.heap.size w (w.alloc o) := (Below.refl _ _).alloc (Nat.le_refl _) _
theorem ones_one {u : Value} (h : u.oneCell' = true) : ∀ v ∈ [u], v.oneCell' = true := fun v hv => by rw [List.mem_singleton] at hv; subst hv; exact h
theorem own_is {w : World} {base : Nat} {e : TypeId} {size n n' : Nat} {v : Value} {xs xs' : List Value} (h : w.ownsRow base e size v n xs) (hn : n = n') (hx : xs = xs') : Hid (w.ownsRow base e size v n' xs') := by
  subst hn hx; exact h

/-- Block g alone has turned. -/
structure Turned (g : Nat) (w w' : World) : Prop where
  os : w'.os = w.os
  tape : w'.tape = w.tape
  output : w'.output = w.output
  size : w'.heap.size = w.heap.size
  block : ∀ k, k ≠ g → w'.heap[k]? = w.heap[k]?
section
variable {g : Nat} {w w' : World}
theorem Turned.below {B : Nat} {w0 : World} (h : Turned g w w') (hb : Below B w0 w) (hB : B ≤ g) : Below B w0 w' :=
  hb.trans ⟨h.os, h.tape, h.output, by rw [h.size]; exact Nat.le_refl _, fun k hk => h.block k (by omega)⟩
theorem Turned.blk {k : Nat} {t : TypeId} {cs : List Value} (h : Turned g w w') (hb : Blk w k t cs) (hk : k ≠ g) : Blk w' k t cs := (h.block k hk).trans hb
theorem Turned.cell {k o : Nat} (h : Turned g w w') (hk : k ≠ g) : w'.cell? ⟨k, o, none⟩ = w.cell? ⟨k, o, none⟩ := by unfold World.cell?; rw [h.block k hk]
theorem Turned.row (w : World) (g : Nat) (cs : Array Value) : Turned g w (w.setRow g cs) := ⟨rfl, rfl, rfl, by simp, fun k hk => setRow_other w g k cs hk⟩
end
/-- A store of a whole array. -/
theorem wpList_put {P : Program} {ops : Array Oper} {rest : List Oper} {o : Oper} {a : Act} {w : World} {Q : Exit → Act → World → Prop} (hgd : o.guard = none) (ty : TypeId) (x y : Operand) (ho : o.op = .store ty x y)
    (g : Nat) (cs old : List Value) (t : TypeId) (hx : a.eval x = .pointer (some ⟨g, 0, none⟩)) (hy : a.eval y = .agg cs.toArray) (hg : Blk w g t old) (hi : (P.info? ty).map (·.size) = some cs.length)
    (hold : old.length = cs.length) (h1 : ∀ u ∈ cs, u.oneCell' = true) (h : ∀ w', Turned g w w' → Blk w' g t cs → wpList P ops Q rest (a.put o.dst undef) w') : wpList P ops Q (o :: rest) a w :=
  wpList_store_row hgd ty x y ho g cs.toArray hx hy t old.toArray hg (by simpa using hi) (by simpa using hold) (all_oneCell_toArray h1) (h _ (Turned.row w g _) (Blk.row hg cs))
/-- A load of a whole array. -/
theorem wpList_get {P : Program} {ops : Array Oper} {rest : List Oper} {o : Oper} {a : Act} {w : World} {Q : Exit → Act → World → Prop} (hgd : o.guard = none) (ty : TypeId) (x : Operand) (ho : o.op = .load ty x)
    (g : Nat) (cs : List Value) (t : TypeId) (d : TypeDesc) (hx : a.eval x = .pointer (some ⟨g, 0, none⟩)) (hg : Blk w g t cs) (hu : P.underlying ty = some d) (hd : (match d with | .struct _ | .array _ _ => true | _ => false) = true)
    (hi : (P.info? ty).map (·.size) = some cs.length) (h : wpList P ops Q rest (a.put o.dst (.agg cs.toArray)) w) : wpList P ops Q (o :: rest) a w :=
  wpList_load_row hgd ty x ho g hx t cs.toArray (0, 0) d hg hu hd (by simpa using hi) h
/-- A result that lies in memory. -/
theorem ret_blk {P : Program} {fn : Func} {p : Tmp} {ty : TypeId} (h : fn.results = #[.cell p ty]) {tmps : Array Value} {w : World} {g : Nat} {t : TypeId} {cs : List Value} (hg : Blk w g t cs) (d : TypeDesc)
    (hp : tmps.getD p undef = .pointer (some ⟨g, 0, none⟩)) (hu : P.underlying ty = some d) (hd : (match d with | .struct _ | .array _ _ => true | _ => false) = true) (hi : (P.info? ty).map (·.size) = some cs.length) :
    (results fn tmps).run P w = .ok (.agg cs.toArray) w :=
  results_cell_row h tmps w g t cs.toArray (0, 0) d hp hg hu hd (by simpa using hi)

theorem wpList_wanted {P : Program} {ops : Array Oper} {rest : List Oper} {o : Oper} {a : Act} {w : World} {Q : Exit → Act → World → Prop} (hw : Region.wanted o (yielded ops a.tmps) = true) (h : o.wp P a w (wpList P ops Q rest) Q) : wpList P ops Q (o :: rest) a w := by
  unfold wpList
  rw [if_pos hw]
  exact .inl h
/-- A load of a whole array, behind a guard that let it by. -/
theorem wpList_get_g {P : Program} {ops : Array Oper} {rest : List Oper} {o : Oper} {a : Act} {w : World} {Q : Exit → Act → World → Prop} (hw : Region.wanted o (yielded ops a.tmps) = true) (ty : TypeId) (x : Operand) (ho : o.op = .load ty x)
    (g : Nat) (cs : List Value) (t : TypeId) (d : TypeDesc) (hx : a.eval x = .pointer (some ⟨g, 0, none⟩)) (hg : Blk w g t cs) (hu : P.underlying ty = some d) (hd : d.isRow = true)
    (hi : (P.info? ty).map (·.size) = some cs.length) (h : wpList P ops Q rest (a.put o.dst (.agg cs.toArray)) w) : wpList P ops Q (o :: rest) a w := by
  refine wpList_wanted hw ?_
  unfold Oper.wp execOp
  simp only [ho, hx, Sem.run_bind, run_load_blk hg ty d hu hd hi, Result.andThen_ok, Sem.run_pure]
  exact h

section
variable {P : Program} {md : Region.Mode} {ops : Array Oper} {C : World → Prop}
/-- Any order of the head's operations, of which f are still to come. -/
def Heads (P : Program) (md : Region.Mode) (ops : Array Oper) (C : World → Prop) (n : Nat) (T : Array Bool → Act → Prop) : Nat → Array Bool → Act → Prop
  | 0, b, a => T b a
  | f + 1, b, a => Region.ready md ops b ≠ [] ∧ ∀ i, i ∈ Region.ready md ops b → i < n ∧ qOp P ops C i (Heads P md ops C n T f (b.setIfInBounds i true)) a
theorem Heads.any {n g : Nat} {T : Array Bool → Act → Prop} {Q : Exit → Act → World → Prop} (hT : ∀ b a w, C w → T b a → wpAny P md ops Q g b a w) :
    ∀ (f : Nat) (b : Array Bool) (a : Act) (w : World), C w → Heads P md ops C n T f b a → wpAny P md ops Q (f + g) b a w := by
  intro f
  induction f with
  | zero => intro b a w hw h; rw [Nat.zero_add]; exact hT b a w hw h
  | succ f ih =>
    intro b a w hw h
    rw [Nat.add_right_comm]
    refine ⟨fun he => absurd he h.1, fun i hi => ?_⟩
    exact wpOp_of_qOp hw (fun a' w' hw' h' => ih _ a' w' hw' h') (h.2 i hi).2
/-- While an operation of the head is to come, none of the tail's may come up. -/
theorem head_only {n i : Nat} {b : Array Bool} (hs : Region.sinkB md ops n = true) (hc : Region.chainB md ops n = true) (hn : n < ops.size) (hv : HeadInv md ops n b) (hi : i ∈ Region.ready md ops b) (hin : i < n) :
    ∀ j ∈ Region.ready md ops b, j < n := fun j hj =>
  Nat.lt_of_not_le fun hnj => tail_waits hs hc hn hv (n - i) i rfl hin (mem_ready.1 hi).1 j hnj hj
/-- The operation that stands next in the text may be taken first. -/
theorem Heads.next {n i : Nat} {o : Oper} {v : Value} {T : Array Bool → Act → Prop} (hi : ops[i]? = some o) (hsel : ∀ (j : Nat) (o : Oper) cs b, ops[j]? = some o → o.op ≠ .select cs b)
    (hs : Region.sinkB md ops n = true) (hc : Region.chainB md ops n = true) (hn : n < ops.size) (hin : i < n) (hT : ∀ b a, T b a → ∀ j ∈ Region.ready md ops b, n ≤ j) :
    ∀ (f : Nat) (b : Array Bool) (a : Act), HeadInv md ops n b →
      (∀ j oj, ops[j]? = some oj → j ≠ i → b.getD j true = false → (∀ e ∈ oj.after, Region.binds md e = true → e.on ≠ i) → o.apart ops oj = true) →
      i ∈ Region.ready md ops b → YieldsIn P ops C o v a → Heads P md ops C n T f (b.setIfInBounds i true) (a.put o.dst v) → Heads P md ops C n T (f + 1) b a := by
  intro f
  induction f with
  | zero =>
    intro b a hv hfree hr hy H
    have only := head_only hs hc hn hv hr hin
    refine ⟨fun he => (by rw [he] at hr; cases hr), fun j hj => ⟨only j hj, ?_⟩⟩
    rcases Decidable.em (j = i) with rfl | hji
    · exact hy.qOp hi H
    · exact absurd (hT _ _ H j (ready_mono hj hji)) (Nat.not_le_of_lt (only j hj))
  | succ f ih =>
    intro b a hv hfree hr hy H
    have only := head_only hs hc hn hv hr hin
    refine ⟨fun he => (by rw [he] at hr; cases hr), fun j hj => ⟨only j hj, ?_⟩⟩
    rcases Decidable.em (j = i) with rfl | hji
    · exact hy.qOp hi H
    · obtain ⟨hbj, oj, hoj, hdone⟩ := mem_ready.1 hj
      have hnot : ∀ e ∈ oj.after, Region.binds md e = true → e.on ≠ i := fun e he hb heq => by
        have h0 := hdone e he hb
        rw [heq, getD_both (mem_ready.1 hr).1] at h0
        cases h0
      refine qOp_mono (fun a' h3 => ?_) (qOp_put hoj (hfree j oj hoj hji hbj hnot) (fun cs s => hsel i o cs s hi) (fun cs s => hsel j oj cs s hoj) hy (H.2 j (ready_mono hj hji)).2)
      refine ih _ a' (hv.set hj (only j hj)) (fun k ok hk hki hbk hno => hfree k ok hk hki ?_ hno) (ready_mono hr (Ne.symm hji)) h3.1 (by rw [Array.setIfInBounds_comm _ _ hji]; exact h3.2)
      rcases Decidable.em (j = k) with rfl | hjk
      · exact hbj
      · rwa [getD_set_ne true hjk] at hbk
/-- The head in the order of the text. -/
theorem Heads.lex {n g : Nat} {R : Act → Prop} (hsel : Region.noSelect ops = true) (hs : Region.sinkB md ops n = true) (hc : Region.chainB md ops n = true) (hn : n < ops.size) :
    ∀ (l : List Oper) (k : Nat) (b : Array Bool) (a : Act), (∀ j, j < l.length → l[j]? = ops[k + j]?) → k + l.length = n → HeadInv md ops n b → Region.lexHead md ops g l.length k b = true → wpQuiet P ops C R l a →
      Heads P md ops C n (fun b' a' => Region.seqB md ops g n b' = true ∧ R a') l.length b a := by
  intro l
  induction l with
  | nil =>
    intro k b a _ hk _ hB h
    obtain rfl : k = n := by simpa using hk
    exact ⟨by simpa [Region.lexHead] using hB, h⟩
  | cons o l ih =>
    intro k b a hl hk hv hB h
    have ho : ops[k]? = some o := by have := hl 0 (Nat.succ_pos _); simpa using this.symm
    rw [List.length_cons] at hk hB
    simp only [Region.lexHead, Bool.and_eq_true] at hB
    have hr : k ∈ Region.ready md ops b := by simpa using hB.1.1
    obtain ⟨v, hy, hK⟩ := yieldsIn_of_qOp (C := C) (K := wpQuiet P ops C R l) ho (by unfold qOp; simp only [ho]; exact h)
    refine Heads.next ho (Region.noSelect_spec hsel) hs hc hn (by omega) (fun b' a' hL => seqB_ready hL.1) l.length b a hv (Region.free_spec ho hB.1.2) hr hy ?_
    exact ih (k + 1) _ _ (fun j hj => by have := hl (j + 1) (by rw [List.length_cons]; omega); rw [List.getElem?_cons_succ] at this; rw [this, Nat.add_right_comm, Nat.add_assoc]) (by omega) (hv.set hr (by omega)) hB.2 hK
end
/-- One walk in the order of the text serves every order. -/
theorem calm_tail {P : Program} {C : World → Prop} {id : Nat} {Q : Exit → Act → World → Prop} {a : Act} {w : World} {l : List Oper} (n : Nat) (hm : P.follows .mixedOrders = true) (hB : Region.lexTailB .any l.toArray n = true) (hC : C w.drew)
    (h : wpQuiet P l.toArray C (fun a' => ∀ w', C w' → wpList P l.toArray Q (l.drop n) a' w') (l.take n) a) : (Code.region id l.toArray true).wp P Q a w := by
  simp only [Region.lexTailB, Bool.and_eq_true, decide_eq_true_eq] at hB
  have hsz : l.toArray.size = l.length := by simp
  have hn : n < l.length := by have := hB.1.1.1.2; rwa [hsz] at this
  have ht : (l.take n).length = n := by rw [List.length_take]; omega
  have hd : (l.drop n).length = l.toArray.size - n := by rw [List.length_drop, hsz]
  have hv : HeadInv .any l.toArray n (Array.replicate l.toArray.size false) :=
    ⟨by simp, fun j oj _ hj => (by rw [getD_replicate_false] at hj; cases hj), fun t _ h => getD_in (by simpa using h) (getD_replicate_false _ _)⟩
  have H := Heads.lex (g := l.toArray.size - n) hB.1.1.1.1 hB.1.1.2 hB.1.2 hB.1.1.1.2 (l.take n) 0 _ a (fun j hj => by
    rw [ht] at hj
    simp [hj]) (by rw [ht, Nat.zero_add]) hv (by rw [ht]; exact hB.2) h
  refine wp_region_any hm ?_
  have := Heads.any (Q := Q) (g := l.toArray.size - n) (fun b a' w' hw' hL => by
    have := wpAny_of_seq (md := .any) (Q' := Q) (l.drop n) n b a' w' (fun j => by simp [List.getElem?_drop]) (by rw [hd]; exact hL.1) (hL.2 w' hw')
    rwa [hd] at this) _ _ _ _ hC H
  rwa [ht, show n + (l.toArray.size - n) = l.toArray.size by omega] at this

end Go.Proofs.YtpjgmekpnlpjaaaDoor
