/-
  Appending one element to a row of the call's own, by type; results that are a list of strings or of numbers with an error.
-/
import Derived.Test.YtpjgmekpnlpjaaaDoorEraG
import Derived.Maps.AppendAt
namespace Go.Proofs.YtpjgmekpnlpjaaaDoor
open Go.RowKit
set_option linter.unusedVariables false
set_option linter.unusedSimpArgs false

theorem cell_arr_new (w : World) (arr : Array Value) (t : TypeId) : ∀ j u, arr.toList[j]? = some u → (w.alloc (.cells arr t)).cell? ((⟨w.heap.size, 0, none⟩ : Addr).add j) = some u := by
  intro j u h
  have := (Blk.new w t arr.toList).cell j
  rw [h] at this
  rw [addr_add, Nat.zero_add]
  exact this

section
variable {T e : TypeId} {size bytes : Nat} {z : Value} {ops : Array Oper} {rest : List Oper} {o : Oper} {a : Act} {Q : Exit → Act → World → Prop} {w : World}
/-- Appending what lies at an address. -/
theorem wpList_apG (hT : Tryd.prog.underlying T = some (.slice e)) (hi : (Tryd.prog.info? e).map (fun i => (i.zero, i.size, i.bytes)) = some (some z, size, bytes)) (hzs : z.cells.size = size) (hsz : 0 < size) (hby : bytes ≤ 64)
    (hgd : o.guard = none) (s x : Operand) (ho : o.op = .call { callee := .builtin .append, args := #[s, x], argTypes := #[T, T] })
    {base : Nat} {v : Value} {n : Nat} {xs : List Value} (hs : a.eval s = v) (hown : w.ownsRow base e size v n xs)
    {ad : Addr} {m c : Nat} {news : List Value} (hx : a.eval x = .slice (some ad) m c) (hl : news.length = m * size) (hnews : ∀ j u, news[j]? = some u → w.cell? (ad.add j) = some u) (h1 : ∀ u ∈ news, u.oneCell' = true)
    (hn : n + m ≤ 100000) (hbase : base ≤ w.heap.size)
    (h : ∀ v' w', Hid (w'.ownsRow base e size v' (n + m) (xs ++ news)) → Hid (w.grownBy w' v.ownBlock) → Hid (v'.ownBlock = v.ownBlock ∨ v'.ownBlock = some w.heap.size) → Hid (Below base w w') → wpList Tryd.prog ops Q rest (a.put o.dst v') w') :
    wpList Tryd.prog ops Q (o :: rest) a w := by
  obtain ⟨i, h2, h3, h4, h5⟩ := info_parts hi
  exact wpList_append_own_at w hgd s x T ho base e i z size bytes hT h2 h3 h4 h5 hzs hsz v n xs hs hown ad m c news hx hl hnews h1 (by unfold maxLen; omega)
    (Nat.le_trans (Nat.mul_le_mul hn hby) (by decide)) hbase fun v' w' q1 q2 _ q3 => h v' w' q1 q2 q3 (below_grown (Below.refl _ _) hown (Nat.le_refl _) hbase q2)

/-- Appending the one element of a new literal. -/
theorem wpList_ap1 (hT : Tryd.prog.underlying T = some (.slice e)) (hi : (Tryd.prog.info? e).map (fun i => (i.zero, i.size, i.bytes)) = some (some z, size, bytes)) (hzs : z.cells.size = size) (hsz : 0 < size) (hby : bytes ≤ 64)
    {arr : Array Value} (hgd : o.guard = none) (s x : Operand) (ho : o.op = .call { callee := .builtin .append, args := #[s, x], argTypes := #[T, T] })
    {base : Nat} {v : Value} {n : Nat} {xs : List Value} (hs : a.eval s = v) (hown : w.ownsRow base e size v n xs) (hx : a.eval x = .slice (some ⟨w.heap.size, 0, none⟩) 1 1) (hl : arr.size = size) (h1 : ∀ u ∈ arr.toList, u.oneCell' = true)
    (hn : n + 1 ≤ 100000) (hbase : base ≤ w.heap.size)
    (h : ∀ v' w', Hid (w'.ownsRow base e size v' (n + 1) (xs ++ arr.toList)) → Hid ((w.alloc (.cells arr e)).grownBy w' v.ownBlock) → Hid (v'.ownBlock = v.ownBlock ∨ v'.ownBlock = some (w.alloc (.cells arr e)).heap.size) → Hid (Below base w w') → wpList Tryd.prog ops Q rest (a.put o.dst v') w') :
    wpList Tryd.prog ops Q (o :: rest) a (w.alloc (.cells arr e)) :=
  have hb := below_new w (.cells arr e)
  wpList_apG (w := w.alloc (.cells arr e)) hT hi hzs hsz hby hgd s x ho hs (own_kept hown hb) (ad := ⟨w.heap.size, 0, none⟩) (news := arr.toList) hx (by simpa using hl) (cell_arr_new w arr e) h1 hn (Nat.le_trans hbase hb.size) fun v' w' q1 q2 q3 q4 =>
    h v' w' q1 q2 q3 ((hb.mono hbase).trans q4.out)
end

section
variable {ops : Array Oper} {rest : List Oper} {o : Oper} {a : Act} {Q : Exit → Act → World → Prop} {w : World}
theorem wpList_apS {u : List UInt8} (hgd : o.guard = none) (hs0 : Operand) (hx0 : Operand) (ho : o.op = .call { callee := .builtin .append, args := #[hs0, hx0], argTypes := #[25, 25] })
    {base : Nat} {v : Value} {n : Nat} {us : List (List UInt8)} (hs : a.eval hs0 = v) (hown : w.ownsRow base 9 1 v n (us.map sv)) (hx : a.eval hx0 = .slice (some ⟨w.heap.size, 0, none⟩) 1 1) (hn : n + 1 ≤ 100000) (hbase : base ≤ w.heap.size)
    (h : ∀ v' w', Hid (w'.ownsRow base 9 1 v' (n + 1) ((us ++ [u]).map sv)) → Hid ((w.alloc (.cells #[sv u] 9)).grownBy w' v.ownBlock) → Hid (v'.ownBlock = v.ownBlock ∨ v'.ownBlock = some (w.alloc (.cells #[sv u] 9)).heap.size) → Hid (Below base w w') → wpList Tryd.prog ops Q rest (a.put o.dst v') w') :
    wpList Tryd.prog ops Q (o :: rest) a (w.alloc (.cells #[sv u] 9)) :=
  wpList_ap1 (z := .string ⟨#[]⟩) (size := 1) (bytes := 16) Tryd.underlying25 (by kernel_rfl) rfl (by decide) (by decide) hgd hs0 hx0 ho hs hown hx rfl (ones_one rfl) hn hbase fun v' w' q1 q2 q3 q4 => h v' w' (by rw [List.map_append]; exact q1) q2 q3 q4
theorem wpList_apI {y : Int} (hgd : o.guard = none) (hs0 : Operand) (hx0 : Operand) (ho : o.op = .call { callee := .builtin .append, args := #[hs0, hx0], argTypes := #[29, 29] })
    {base : Nat} {v : Value} {n : Nat} {us : List Int} (hs : a.eval hs0 = v) (hown : w.ownsRow base 3 1 v n (us.map iv)) (hx : a.eval hx0 = .slice (some ⟨w.heap.size, 0, none⟩) 1 1) (hn : n + 1 ≤ 100000) (hbase : base ≤ w.heap.size)
    (h : ∀ v' w', Hid (w'.ownsRow base 3 1 v' (n + 1) ((us ++ [y]).map iv)) → Hid ((w.alloc (.cells #[.int .i64 y] 3)).grownBy w' v.ownBlock) → Hid (v'.ownBlock = v.ownBlock ∨ v'.ownBlock = some (w.alloc (.cells #[.int .i64 y] 3)).heap.size) → Hid (Below base w w') → wpList Tryd.prog ops Q rest (a.put o.dst v') w') :
    wpList Tryd.prog ops Q (o :: rest) a (w.alloc (.cells #[.int .i64 y] 3)) :=
  wpList_ap1 (z := .int .i64 0) (size := 1) (bytes := 8) Tryd.underlying29 (by kernel_rfl) rfl (by decide) (by decide) hgd hs0 hx0 ho hs hown hx rfl (ones_one rfl) hn hbase fun v' w' q1 q2 q3 q4 => h v' w' (by rw [List.map_append]; exact q1) q2 q3 q4
theorem wpList_apR {A : Option Addr} {k c : Nat} (hgd : o.guard = none) (hs0 : Operand) (hx0 : Operand) (ho : o.op = .call { callee := .builtin .append, args := #[hs0, hx0], argTypes := #[22, 22] })
    {base : Nat} {v : Value} {n : Nat} {us : List Value} (hs : a.eval hs0 = v) (hown : w.ownsRow base 29 1 v n us) (hx : a.eval hx0 = .slice (some ⟨w.heap.size, 0, none⟩) 1 1) (hn : n + 1 ≤ 100000) (hbase : base ≤ w.heap.size)
    (h : ∀ v' w', Hid (w'.ownsRow base 29 1 v' (n + 1) (us ++ [.slice A k c])) → Hid ((w.alloc (.cells #[.slice A k c] 29)).grownBy w' v.ownBlock) → Hid (v'.ownBlock = v.ownBlock ∨ v'.ownBlock = some (w.alloc (.cells #[.slice A k c] 29)).heap.size) → Hid (Below base w w') → wpList Tryd.prog ops Q rest (a.put o.dst v') w') :
    wpList Tryd.prog ops Q (o :: rest) a (w.alloc (.cells #[.slice A k c] 29)) :=
  wpList_ap1 (z := .slice none 0 0) (size := 1) (bytes := 24) Tryd.underlying22 (by kernel_rfl) rfl (by decide) (by decide) hgd hs0 hx0 ho hs hown hx rfl (ones_one rfl) hn hbase h
/-- A term: a unit and a coefficient. -/
abbrev tc (t : Nat × Nat) : List Value := [.int .i64 (t.1 : Int), .int .i64 (t.2 : Int)]
abbrev tcs (l : List (Nat × Nat)) : List Value := l.flatMap tc
theorem tcs_snoc (l : List (Nat × Nat)) (t : Nat × Nat) : tcs (l ++ [t]) = tcs l ++ tc t := by simp [tcs]
theorem tcs_len (l : List (Nat × Nat)) : (tcs l).length = l.length * 2 := by
  induction l with
  | nil => rfl
  | cons t r ih => rw [show tcs (t :: r) = tc t ++ tcs r from rfl, List.length_append, ih]; simp only [List.length_cons, List.length_nil]; omega
theorem tcs_at : ∀ (l : List (Nat × Nat)) (k : Nat) (h : k < l.length), (tcs l)[k * 2]? = some (.int .i64 ((l[k]).1 : Int)) ∧ (tcs l)[k * 2 + 1]? = some (.int .i64 ((l[k]).2 : Int))
  | t :: r, 0, _ => ⟨rfl, rfl⟩
  | t :: r, k + 1, h => by
    have := tcs_at r k (by simpa using h)
    rw [show tcs (t :: r) = tc t ++ tcs r from rfl, List.getElem?_append_right (by simp; omega), List.getElem?_append_right (by simp; omega)]
    have e1 : (k + 1) * 2 - (tc t).length = k * 2 := by simp; omega
    have e2 : (k + 1) * 2 + 1 - (tc t).length = k * 2 + 1 := by simp; omega
    rw [e1, e2]
    exact this
theorem wpList_apT {t : Nat × Nat} (hgd : o.guard = none) (hs0 : Operand) (hx0 : Operand) (ho : o.op = .call { callee := .builtin .append, args := #[hs0, hx0], argTypes := #[44, 44] })
    {base : Nat} {v : Value} {n : Nat} {us : List (Nat × Nat)} (hs : a.eval hs0 = v) (hown : w.ownsRow base 63 2 v n (tcs us)) (hx : a.eval hx0 = .slice (some ⟨w.heap.size, 0, none⟩) 1 1) (hn : n + 1 ≤ 100000) (hbase : base ≤ w.heap.size)
    (h : ∀ v' w', Hid (w'.ownsRow base 63 2 v' (n + 1) (tcs (us ++ [t]))) → Hid ((w.alloc (.cells #[.int .i64 (t.1 : Int), .int .i64 (t.2 : Int)] 63)).grownBy w' v.ownBlock) → Hid (v'.ownBlock = v.ownBlock ∨ v'.ownBlock = some (w.alloc (.cells #[.int .i64 (t.1 : Int), .int .i64 (t.2 : Int)] 63)).heap.size) → Hid (Below base w w') → wpList Tryd.prog ops Q rest (a.put o.dst v') w') :
    wpList Tryd.prog ops Q (o :: rest) a (w.alloc (.cells #[.int .i64 (t.1 : Int), .int .i64 (t.2 : Int)] 63)) :=
  wpList_ap1 (z := .agg #[.int .i64 0, .int .i64 0]) (size := 2) (bytes := 16) Tryd.underlying44 (by kernel_rfl) rfl (by decide) (by decide) hgd hs0 hx0 ho hs hown hx rfl (fun u hu => by
    rcases List.mem_cons.1 hu with rfl | hu
    · rfl
    · rcases List.mem_cons.1 hu with rfl | hu
      · rfl
      · cases hu) hn hbase fun v' w' q1 q2 q3 q4 => h v' w' (by rw [tcs_snoc]; exact q1) q2 q3 q4
end
theorem own_base {w : World} {base base' size n : Nat} {e : TypeId} {v : Value} {xs : List Value} (h : w.ownsRow base e size v n xs) (hb : base' ≤ base) : w.ownsRow base' e size v n xs :=
  ⟨h.1, h.2.elim Or.inl (fun ⟨g, cap, cur, hv, hg, r⟩ => Or.inr ⟨g, cap, cur, hv, Nat.le_trans hb hg, r⟩)⟩
/-- A list of strings and an error. -/
def StrRes (w : World) (r : List (List UInt8) × Int) (e : Ending) (w' : World) : Prop :=
  ∃ v, e = .returned (.tuple #[v, .int .i64 r.2]) ∧ w'.ownsRow w.heap.size 9 1 v r.1.length (r.1.map sv) ∧ Below w.heap.size w w'
/-- A list of numbers and an error. -/
def IntRes (w : World) (r : List Int × Int) (e : Ending) (w' : World) : Prop :=
  ∃ v, e = .returned (.tuple #[v, .int .i64 r.2]) ∧ w'.ownsRow w.heap.size 3 1 v r.1.length (r.1.map iv) ∧ Below w.heap.size w w'
/-- A list of terms and an error. -/
def TermRes (w : World) (r : List (Nat × Nat) × Int) (e : Ending) (w' : World) : Prop :=
  ∃ v, e = .returned (.tuple #[v, .int .i64 r.2]) ∧ w'.ownsRow w.heap.size 63 2 v r.1.length (tcs r.1) ∧ Below w.heap.size w w'
theorem StrRes.nil {w w' : World} (hb : Below w.heap.size w w') (x : Int) : StrRes w ([], x) (.returned (.tuple #[.slice none 0 0, .int .i64 x])) w' := ⟨_, rfl, World.ownsRow_nil _ _ _ _, hb⟩
theorem IntRes.nil {w w' : World} (hb : Below w.heap.size w w') (x : Int) : IntRes w ([], x) (.returned (.tuple #[.slice none 0 0, .int .i64 x])) w' := ⟨_, rfl, World.ownsRow_nil _ _ _ _, hb⟩
theorem TermRes.nil {w w' : World} (hb : Below w.heap.size w w') (x : Int) : TermRes w ([], x) (.returned (.tuple #[.slice none 0 0, .int .i64 x])) w' := ⟨_, rfl, World.ownsRow_nil _ _ _ _, hb⟩
end Go.Proofs.YtpjgmekpnlpjaaaDoor
