/-
  What stage 10 stands on, cut out of older texts. (Lib, ArgE, Quiet, OnceU, CdM, RowN, Rng, InR.)
-/
import Derived.WalkKit
import Derived.WalkSpells
import Derived.WalkLawsBesides
import Derived.Deep.MidRow
import Derived.Lib.BufferRead
import Derived.Test.YtklngodlijiccaaDoorRows
import Derived.ChangeKeysEq
import Derived.ProofKit
import Derived.OpenShut
import Derived.SizedLaws
import Derived.ShutString
import Derived.ChangeOld
import Derived.Below
import Derived.Deep.QuietTactic
import Derived.BigQuiet
import Derived.StillTailTactics
import Derived.StillTail
import Derived.Deep.Quiet
import Derived.OrdersHeld
import Derived.Great.BuildSlice
import Derived.Deep.LoopGhost
import Derived.Shelf.Abstract
import Derived.RangeFuncNested
import Derived.RangeFuncBound
import Derived.RangeFuncCalls
import Derived.RangeFuncLeaves
import Derived.OrdersIn
import Derived.TacticsIn
namespace Go.Proofs.YtklngodlijiccaaDoor
set_option linter.unusedVariables false
set_option linter.unusedSimpArgs false
set_option linter.unusedSectionVars false

section
open Go.RowKit
set_option linter.unusedVariables false
theorem hideIt {p : Prop} (h : p) : Hid p := h
/-- A byte as a cell. -/
abbrev bv (b : UInt8) : Value := .int .u8 (b.toNat : Int)
abbrev iv (n : Int) : Value := .int .i64 n
/-- The address of a slice and its cells: 'n' elements of 'size' cells each, below block B. -/
def Sl (w : World) (B : Nat) (A : Option Addr) (size n : Nat) (xs : List Value) : Prop :=
  xs.length = n * size ∧ (0 < xs.length → ∃ b off, A = some ⟨b, off, none⟩ ∧ b < B ∧ ∀ j u, xs[j]? = some u → w.cell? ⟨b, off + j, none⟩ = some u)
theorem addr_add (b o k : Nat) : (⟨b, o, none⟩ : Addr).add k = ⟨b, o + k, none⟩ := by
  unfold Addr.add; split <;> simp_all
section
variable {w w' : World} {B B' size n : Nat} {A : Option Addr} {xs : List Value}
theorem Sl.nil (w : World) (B : Nat) (A : Option Addr) (size : Nat) : Sl w B A size 0 [] := ⟨by simp, fun h => absurd h (by simp)⟩
theorem Sl.keep (h : Sl w B A size n xs) (hk : ∀ b o, b < B → w'.cell? ⟨b, o, none⟩ = w.cell? ⟨b, o, none⟩) : Sl w' B A size n xs := by
  refine ⟨h.1, fun hp => ?_⟩
  obtain ⟨b, off, e, hb, hc⟩ := h.2 hp
  exact ⟨b, off, e, hb, fun j u hu => (hk _ _ hb).trans (hc j u hu)⟩
theorem Sl.wide (h : Sl w B A size n xs) (hB : B ≤ B') : Sl w B' A size n xs := by
  refine ⟨h.1, fun hp => ?_⟩
  obtain ⟨b, off, e, hb, hc⟩ := h.2 hp
  exact ⟨b, off, e, by omega, hc⟩
theorem Sl.below (h : Sl w B A size n xs) (hb : Below B w w') : Sl w' B A size n xs := h.keep fun _ _ hp => hb.cell (p := ⟨_, _, none⟩) hp
theorem Sl.drop (h : Sl w B A size n xs) {k cap : Nat} (hk : k ≤ n) (hc : n ≤ cap) :
    Sl w B (if cap = k then A else A.map (·.add (k * size))) size (n - k) (xs.drop (k * size)) := by
  refine ⟨by rw [List.length_drop, h.1, Nat.sub_mul], fun hp => ?_⟩
  rw [List.length_drop] at hp
  obtain ⟨b, off, rfl, hb, hcell⟩ := h.2 (by omega)
  have hne : ¬ cap = k := by
    intro e
    have h1 := h.1
    have : n = k := by omega
    subst this
    omega
  rw [if_neg hne]
  refine ⟨b, off + k * size, by simp [addr_add], hb, fun j u hu => ?_⟩
  rw [Nat.add_assoc]
  exact hcell _ u (by rw [← hu, List.getElem?_drop])
theorem Sl.take (h : Sl w B A size n xs) {k : Nat} (hk : k ≤ n) : Sl w B A size k (xs.take (k * size)) := by
  have hle : k * size ≤ n * size := Nat.mul_le_mul_right _ hk
  refine ⟨by rw [List.length_take, h.1]; omega, fun hp => ?_⟩
  rw [List.length_take] at hp
  obtain ⟨b, off, rfl, hb, hcell⟩ := h.2 (by omega)
  refine ⟨b, off, rfl, hb, fun j u hu => hcell j u ?_⟩
  rw [List.getElem?_take] at hu
  split at hu
  · exact hu
  · cases hu
theorem Sl.of_own {base : Nat} {e : TypeId} {c : Nat} (h : w.ownsRow base e size (.slice A n c) n xs) : Sl w w.heap.size A size n xs := by
  refine ⟨h.1, fun hp => ?_⟩
  rcases h.2 with ⟨_, h0⟩ | ⟨g, cap, cur, hv, hb, hg, _⟩
  · have := h.1; subst h0; omega
  · injection hv with hv1 hv2 hv3
    subst hv1
    refine ⟨g, 0, rfl, (Array.getElem?_eq_some_iff.1 hg).1, fun j u hu => ?_⟩
    have := h.cells (g := g) rfl j u hu
    rwa [addr_add] at this
end
theorem Sl.at_ {w : World} {B n : Nat} {A : Option Addr} {xs : List Value} (h : Sl w B A 1 n xs) {k : Nat} (hk : k < n) :
    ∃ b off u, A = some ⟨b, off, none⟩ ∧ b < B ∧ xs[k]? = some u ∧ w.cell? ⟨b, off + k, none⟩ = some u := by
  have hl : k < xs.length := by have := h.1; omega
  obtain ⟨b, off, e, hb, hc⟩ := h.2 (by omega)
  exact ⟨b, off, xs[k], e, hb, List.getElem?_eq_getElem hl, hc k _ (List.getElem?_eq_getElem hl)⟩
theorem Sl.byte {w : World} {B : Nat} {A : Option Addr} {l : List UInt8} (h : Sl w B A 1 l.length (l.map bv)) {k : Nat} (hk : k < l.length) :
    ∃ b off, A = some ⟨b, off, none⟩ ∧ b < B ∧ w.cell? ⟨b, off + k, none⟩ = some (bv l[k]) := by
  obtain ⟨b, off, u, e, hb, hu, hc⟩ := h.at_ hk
  rw [List.getElem?_map, List.getElem?_eq_getElem hk] at hu
  simp only [Option.map_some, Option.some.injEq] at hu
  exact ⟨b, off, e, hb, hu ▸ hc⟩
theorem Sl.num {w : World} {B : Nat} {A : Option Addr} {l : List Int} (h : Sl w B A 1 l.length (l.map iv)) {k : Nat} (hk : k < l.length) :
    ∃ b off, A = some ⟨b, off, none⟩ ∧ b < B ∧ w.cell? ⟨b, off + k, none⟩ = some (iv l[k]) := by
  obtain ⟨b, off, u, e, hb, hu, hc⟩ := h.at_ hk
  rw [List.getElem?_map, List.getElem?_eq_getElem hk] at hu
  simp only [Option.map_some, Option.some.injEq] at hu
  exact ⟨b, off, e, hb, hu ▸ hc⟩
theorem take_snoc {α : Type} (l : List α) (k : Nat) (h : k < l.length) : l.take (k + 1) = l.take k ++ [l[k]] := by
  rw [List.take_add_one, List.getElem?_eq_getElem h]; rfl
theorem ret_b {a b : Bool} (h : a = b) : Ending.returned (.bool a) = Ending.returned (.bool b) := by rw [h]
theorem own_form {w : World} {base : Nat} {e : TypeId} {size n : Nat} {v : Value} {xs : List Value} (h : w.ownsRow base e size v n xs) :
    ∃ A c, v = .slice A n c ∧ n ≤ c ∧ c ≤ maxLen := by
  rcases h.2 with ⟨rfl, rfl⟩ | ⟨g, cap, cur, rfl, _, _, h1, h2, _⟩
  · exact ⟨none, 0, rfl, Nat.le_refl _, by decide⟩
  · exact ⟨_, _, rfl, h1, h2⟩
/-- What a call owns stays owned where nothing that was there turns. -/
theorem own_kept {w w' : World} {base : Nat} {e : TypeId} {size n : Nat} {v : Value} {xs : List Value} (h : w.ownsRow base e size v n xs) (hb : Below w.heap.size w w') : w'.ownsRow base e size v n xs := by
  refine ⟨h.1, ?_⟩
  rcases h.2 with h0 | ⟨g, cap, cur, hv, hg, hh, r⟩
  · exact .inl h0
  · exact .inr ⟨g, cap, cur, hv, hg, by rw [hb.block g (Array.getElem?_eq_some_iff.1 hh).1]; exact hh, r⟩
theorem below_grown {B : Nat} {w0 w w' : World} {base : Nat} {e : TypeId} {size n : Nat} {v : Value} {xs : List Value} (h : Below B w0 w) (hown : w.ownsRow base e size v n xs) (hB : B ≤ base)
    (hs : B ≤ w.heap.size) (hg : w.grownBy w' v.ownBlock) : Below B w0 w' :=
  h.grown hg hs fun k hk => Nat.le_trans hB (hown.lt k hk).1
/-- A block that is known whole. -/
def Blk (w : World) (g : Nat) (t : TypeId) (cs : List Value) : Prop := w.heap[g]? = some (.cells cs.toArray t (0, 0))
section
variable {w w' : World} {g : Nat} {t : TypeId} {cs : List Value}
theorem Blk.lt (h : Blk w g t cs) : g < w.heap.size := (Array.getElem?_eq_some_iff.1 h).1
theorem Blk.cell (h : Blk w g t cs) (i : Nat) : w.cell? ⟨g, i, none⟩ = cs[i]? := by
  unfold Blk at h
  simp [World.cell?, h]
theorem Blk.free (h : Blk w g t cs) (i : Nat) : w.frozen? ⟨g, i, none⟩ = false := by
  unfold Blk at h
  simp [World.frozen?, h]
theorem Blk.new (w : World) (t : TypeId) (cs : List Value) : Blk (w.alloc (.cells cs.toArray t)) w.heap.size t cs := heap_alloc_new w _
theorem Blk.store (h : Blk w g t cs) (i : Nat) (u : Value) : Blk (w.setCell ⟨g, i, none⟩ u) g t (cs.set i u) := by
  unfold Blk at h ⊢
  simp [World.setCell, Array.getElem?_modify, h]
theorem Blk.kept {B : Nat} (h : Blk w g t cs) (hb : Below B w w') (hg : g < B) : Blk w' g t cs := (hb.block g hg).trans h
theorem Blk.alloc (h : Blk w g t cs) (o : Obj) : Blk (w.alloc o) g t cs := (Below.heap_alloc w o g h.lt).trans h
end
/-- A slice of bytes made into a string. -/
theorem push_all : ∀ (l : List UInt8) (s : ByteArray), (l.map (fun b : UInt8 => (b.toNat : Int))).foldl (fun r n => r.push (UInt8.ofNat n.toNat)) s = ⟨s.data ++ l.toArray⟩
  | [], s => by simp
  | b :: r, s => by
    rw [List.map_cons, List.foldl_cons, push_all r]
    apply ByteArray.ext
    simp [ByteArray.push]
theorem conv_bytes {P : Program} {T S e : TypeId} (hT : P.underlying T = some (.slice e)) (he : P.underlying e = some (.int .u8)) (hS : P.underlying S = some .string) {w : World} {B c : Nat} {A : Option Addr} {l : List UInt8}
    (h : Sl w B A 1 l.length (l.map bv)) : (convert T S (.slice A l.length c)).run P w = .ok (.string ⟨l.toArray⟩) w := by
  have key : ∀ a : Addr, (∀ j v, (l.map bv)[j]? = some v → w.cell? (a.add j) = some v) → (convert T S (.slice (some a) l.length c)).run P w = .ok (.string ⟨l.toArray⟩) w := by
    intro a hc
    have hl := run_loadCells_list (P := P) w a (l.map bv) hc
    rw [List.length_map] at hl
    have hm : l.map bv = (l.map (fun b : UInt8 => (b.toNat : Int))).map (Value.int .u8) := by rw [List.map_map]; rfl
    rw [hm] at hl
    rw [run_convert_bytes_string w T S e _ _ c hT he hS, run_bytesToString w a l.length c _ hl, push_all]
    have e0 : ByteArray.empty.data ++ l.toArray = l.toArray := by
      show #[] ++ l.toArray = l.toArray
      simp
    rw [e0]
  rcases Nat.eq_zero_or_pos l.length with h0 | h0
  · obtain rfl : l = [] := List.length_eq_zero_iff.1 h0
    cases A with
    | none => exact Lib.run_convert_nil_bytes w T S e c hT he hS
    | some a => exact key a (by simp)
  · obtain ⟨b, off, rfl, _, hc⟩ := h.2 (by simpa using h0)
    exact key _ fun j v hv => by rw [addr_add]; exact hc j v hv
end

section
open Go.ChangeShapes Go.WideShapes Go.ChangeAt Go.RowKit
set_option linter.unusedVariables false
theorem add_twice (a : Addr) (i j : Nat) : (a.add i).add j = a.add (i + j) := by
  unfold Addr.add
  by_cases hi : i = 0 <;> by_cases hj : j = 0 <;> simp [hi, hj, Nat.add_assoc]
theorem add_block (a : Addr) (i : Nat) : (a.add i).block = a.block := by unfold Addr.add; split <;> rfl
/-- A slice that came in, element by element. -/
theorem open_elems {H : Type} {enc : TypeId × Value → H} {P : Program} {w : World} {base : Nat} {spare : Nat → Bool} {held : Bool} {T e : TypeId} {size : Nat} (hT : P.underlying T = some (.slice e)) (hc : P.cellsOf e = size) (hs : 0 < size)
    (Good : List Value → Prop) (hG : ∀ n cs y, cs.length = size → DataW.trod enc P w base spare held n e cs = some y → Good cs)
    {fuel : Nat} {A : Option Addr} {len cap : Nat} {x : DataW H × List MemPlace} (h : DataW.trod enc P w base spare held fuel T [.slice A len cap] = some x) :
    len ≤ cap ∧ cap ≤ maxLen ∧ ((x.1 = .nil ∧ len = 0) ∨ ∃ es rs, x.1 = .slice es rs ∧ es.length = len) ∧ ∃ css : List (List Value), css.length = len ∧ (∀ cs ∈ css, Good cs ∧ cs.length = size) ∧ Sl w w.heap.size A size len css.flatten := by
  rcases DataW.trod_slice hT h with ⟨h0, hx0⟩ | ⟨a, len', cap', elems, rest, n, _, h0, hx0, hb, hl, hm, hlen, hel, _, _⟩
  · simp only [List.cons.injEq, Value.slice.injEq, and_true] at h0
    obtain ⟨rfl, rfl, rfl⟩ := h0
    exact ⟨Nat.le_refl _, by decide, .inl ⟨by rw [hx0], rfl⟩, [], rfl, by simp, Sl.nil _ _ _ _⟩
  · simp only [List.cons.injEq, Value.slice.injEq, and_true] at h0
    obtain ⟨rfl, rfl, rfl⟩ := h0
    refine ⟨hl, hm, .inr ⟨_, _, by rw [hx0], by rw [List.length_map, hlen]⟩, ?_⟩
    have key : ∀ m, m ≤ len → ∃ css : List (List Value), css.length = m ∧ (∀ cs ∈ css, Good cs ∧ cs.length = size) ∧ css.flatten.length = m * size ∧ ∀ j u, css.flatten[j]? = some u → w.cell? (a.add j) = some u := by
      intro m
      induction m with
      | zero => intro _; exact ⟨[], rfl, by simp, by simp, by simp⟩
      | succ m ih =>
        intro hm'
        obtain ⟨css, q1, q2, q3, q4⟩ := ih (by omega)
        have h1 := hel m (by omega)
        rw [List.getElem?_eq_getElem (by omega), Option.bind_eq_some_iff] at h1
        obtain ⟨cs, hcs, hy⟩ := h1
        obtain ⟨_, p2, p3⟩ := World.cells?_some hcs
        rw [hc] at p2 p3
        refine ⟨css ++ [cs], by rw [List.length_append, q1]; rfl, ?_, ?_, ?_⟩
        · intro cs' hcs'
          rcases List.mem_append.1 hcs' with hh | hh
          · exact q2 cs' hh
          · rw [List.mem_singleton] at hh
            subst hh
            exact ⟨hG _ _ _ p2 hy, p2⟩
        · rw [List.flatten_append, List.length_append, q3, List.flatten_singleton, p2, Nat.succ_mul]
        · intro j u hu
          rw [List.flatten_append, List.flatten_singleton] at hu
          by_cases hj : j < m * size
          · rw [List.getElem?_append_left (by omega)] at hu
            exact q4 j u hu
          · rw [List.getElem?_append_right (by omega), q3] at hu
            have hlt : j - m * size < size := by
              have := (List.getElem?_eq_some_iff.1 hu).1
              omega
            have := p3 (j - m * size) hlt
            rw [add_twice, show m * size + (j - m * size) = j by omega] at this
            rw [this, hu]
    obtain ⟨css, q1, q2, q3, q4⟩ := key len (Nat.le_refl _)
    refine ⟨css, q1, q2, q3, fun hp => ?_⟩
    have hz := q4 0 _ (List.getElem?_eq_getElem hp)
    have hsp := World.cell?_spot hz
    have hbl := World.block_lt_of_cell? w _ hz
    rw [add_block] at hbl
    obtain ⟨b, off, spot⟩ := a
    have : spot = none := by simpa [Addr.add] using hsp
    subst this
    exact ⟨b, off, rfl, hbl, fun j u hu => by have := q4 j u hu; rwa [addr_add] at this⟩
theorem wf_i64 {n : Int} (h : (Lit.int .i64 n).wf = true) : -9223372036854775808 ≤ n ∧ n ≤ 9223372036854775807 := by simpa [Lit.wf, IntKind.min, IntKind.max, IntKind.signed, IntKind.bits] using h
theorem nums_of : ∀ css : List (List Value), (∀ cs ∈ css, (∃ n : Int, cs = [iv n] ∧ -9223372036854775808 ≤ n ∧ n ≤ 9223372036854775807) ∧ cs.length = 1) →
    ∃ l : List Int, l.length = css.length ∧ css.flatten = l.map iv ∧ ∀ n ∈ l, -9223372036854775808 ≤ n ∧ n ≤ 9223372036854775807
  | [], _ => ⟨[], rfl, rfl, by simp⟩
  | cs :: r, h => by
    obtain ⟨⟨b, rfl, hb⟩, _⟩ := h cs (by simp)
    obtain ⟨l, h1, h2, h3⟩ := nums_of r fun x hx => h x (by simp [hx])
    exact ⟨b :: l, by simp [h1], by simp [h2], by intro n hn; rcases List.mem_cons.1 hn with rfl | hn; exact hb; exact h3 n hn⟩
end

section
open Go.RowKit
set_option linter.unusedVariables false
theorem drewN_drew (w : World) (n : Nat) : (w.drewN n).drew = w.drewN (n + 1) := rfl
theorem below_drewN {B : Nat} {w0 w : World} (h : Below B w0 w) (n : Nat) : Below B w0 (w.drewN n) := h.trans ⟨rfl, rfl, rfl, Nat.le_refl _, fun _ _ => rfl⟩
/-- Which operation stands next: to be asked with reducible eyes, ahead of a law. -/
theorem at_load {P : Program} {ops : Array Oper} {rest : List Oper} {Q : Exit → Act → World → Prop} {a : Act} {w : World} {ty : TypeId} {x : Operand} {d t p f g}
    (h : wpList P ops Q ({ dst := d, op := .load ty x, type := t, pos := p, after := f, guard := g } :: rest) a w) : wpList P ops Q ({ dst := d, op := .load ty x, type := t, pos := p, after := f, guard := g } :: rest) a w := h
theorem at_store {P : Program} {ops : Array Oper} {rest : List Oper} {Q : Exit → Act → World → Prop} {a : Act} {w : World} {ty : TypeId} {x y : Operand} {d t p f g}
    (h : wpList P ops Q ({ dst := d, op := .store ty x y, type := t, pos := p, after := f, guard := g } :: rest) a w) : wpList P ops Q ({ dst := d, op := .store ty x y, type := t, pos := p, after := f, guard := g } :: rest) a w := h
/-- A region whose operations only read, up to the n-th; then the tail, in order. -/
theorem still_tail {P : Program} {id : Nat} {Q : Exit → Act → World → Prop} {a : Act} {w : World} {l : List Oper} (n : Nat) (hm : P.follows .mixedOrders = true) (hB : Region.lexTailB .any l.toArray n = true)
    (h : ∀ w2 : World, w2 = w.drew → wpStill P l.toArray w2 (fun a' => wpList P l.toArray Q (l.drop n) a' w2) (l.take n) a) : (Code.region id l.toArray true).wp P Q a w :=
  wp_region_still_tail n hm hB (h _ rfl)
theorem Blk.row {w : World} {g : Nat} {t : TypeId} {cs : List Value} (h : Blk w g t cs) (cs' : List Value) : Blk (w.setRow g cs'.toArray) g t cs' := setRow_heap w g _ _ t _ h
theorem Blk.store_other {w : World} {g k i : Nat} {t : TypeId} {cs : List Value} {u : Value} (h : Blk w g t cs) (hk : g ≠ k) : Blk (w.setCell ⟨k, i, none⟩ u) g t cs := (heap_setCell_other w ⟨k, i, none⟩ g u hk).trans h
theorem at_make {P : Program} {ops : Array Oper} {rest : List Oper} {Q : Exit → Act → World → Prop} {a : Act} {w : World} {ty : TypeId} {x y : Operand} {d t p f g}
    (h : wpList P ops Q ({ dst := d, op := .makeSlice ty x y, type := t, pos := p, after := f, guard := g } :: rest) a w) : wpList P ops Q ({ dst := d, op := .makeSlice ty x y, type := t, pos := p, after := f, guard := g } :: rest) a w := h
theorem at_copy {P : Program} {ops : Array Oper} {rest : List Oper} {Q : Exit → Act → World → Prop} {a : Act} {w : World} {xs : Array Operand} {ts : Array TypeId} {d t p f g}
    (h : wpList P ops Q ({ dst := d, op := .call { callee := .builtin .copy, args := xs, argTypes := ts }, type := t, pos := p, after := f, guard := g } :: rest) a w) :
    wpList P ops Q ({ dst := d, op := .call { callee := .builtin .copy, args := xs, argTypes := ts }, type := t, pos := p, after := f, guard := g } :: rest) a w := h
theorem run_load_blk {P : Program} {w : World} {g : Nat} {t : TypeId} {cs : List Value} (hg : Blk w g t cs) (ty : TypeId) (d : TypeDesc) (hu : P.underlying ty = some d) (hd : d.isRow = true) (hi : (P.info? ty).map (·.size) = some cs.length) :
    (Instr.loadAt ty (.pointer (some ⟨g, 0, none⟩))).run P w = .ok (.agg cs.toArray) w :=
  run_loadAt_mid w g 0 ty cs d (fun j v hv => by rw [hg.cell, Nat.zero_add]; exact hv) hu hd hi
theorem at_append {P : Program} {ops : Array Oper} {rest : List Oper} {Q : Exit → Act → World → Prop} {a : Act} {w : World} {xs : Array Operand} {ts : Array TypeId} {d t p f g}
    (h : wpList P ops Q ({ dst := d, op := .call { callee := .builtin .append, args := xs, argTypes := ts }, type := t, pos := p, after := f, guard := g } :: rest) a w) :
    wpList P ops Q ({ dst := d, op := .call { callee := .builtin .append, args := xs, argTypes := ts }, type := t, pos := p, after := f, guard := g } :: rest) a w := h
theorem run_app {P : Program} {w : World} (t rt : TypeId) (base : Nat)
    (e : TypeId) (i : TypeInfo) (z : Value) (size bytes : Nat) (h1 : P.underlying t = some (.slice e)) (h2 : P.info? e = some i) (h3 : i.zero = some z) (h4 : i.size = size) (h5 : i.bytes = bytes) (h6 : z.cells.size = size) (h7 : 0 < size)
    (v : Value) (n : Nat) (xs : List Value) (hO : w.ownsRow base e size v n xs) (B : Nat) (A' : Option Addr) (m c : Nat) (ys : List Value) (hY : Sl w B A' size m ys)
    (h1c : ∀ u ∈ ys, u.oneCell' = true) (b1 : n + m ≤ maxLen) (b2 : (n + m) * bytes ≤ 140737488355328) (hb : base ≤ w.heap.size) :
    ∃ v' w', (Builtin.append_ #[t, t] rt #[v, .slice A' m c]).run P w = .ok v' w' ∧ w'.ownsRow base e size v' (n + m) (xs ++ ys) ∧ Below base w w' := by
  rcases Nat.eq_zero_or_pos m with hm | hm
  · subst hm
    obtain rfl : ys = [] := List.length_eq_zero_iff.1 (by simpa using hY.1)
    refine ⟨v, w, ?_, by simpa using hO, Below.refl _ _⟩
    obtain ⟨A, cap, rfl, q1, q2⟩ := own_form hO
    cases A' with
    | none => cases A <;> simp [Builtin.append_, run_underlying h1, sizeOf, typeInfo, h2, Builtin.lenOf, Builtin.firstCells, storeCells, q1]
    | some a' => cases A <;> simp [Builtin.append_, run_underlying h1, sizeOf, typeInfo, h2, Builtin.lenOf, Builtin.firstCells, storeCells, loadCells, loadCellsFrom, q1]
  · obtain ⟨b', o', rfl, _, hcy⟩ := hY.2 (by rw [hY.1]; exact Nat.mul_pos hm h7)
    obtain ⟨v', w', hr, ho', hg, _⟩ := run_append_own (P := P) w base t rt e i z size bytes h1 h2 h3 h4 h5 h6 h7 v n xs hO _ m c ys hY.1 (fun j u hu => by rw [addr_add]; exact hcy j u hu) h1c b1 b2 hb
    exact ⟨v', w', hr, ho', below_grown (Below.refl _ _) hO (Nat.le_refl _) hb hg⟩
/-- append onto a row of the call's own, the source a slice that may be nil or empty. -/
theorem wpList_app {P : Program} {w : World} {ops : Array Oper} {rest : List Oper} {o : Oper} {a : Act} {Q : Exit → Act → World → Prop} (hgd : o.guard = none) (s x : Operand) (t : TypeId)
    (ho : o.op = .call { callee := .builtin .append, args := #[s, x], argTypes := #[t, t] }) (base : Nat)
    (e : TypeId) (i : TypeInfo) (z : Value) (size bytes : Nat) (h1 : P.underlying t = some (.slice e)) (h2 : P.info? e = some i) (h3 : i.zero = some z) (h4 : i.size = size) (h5 : i.bytes = bytes) (h6 : z.cells.size = size) (h7 : 0 < size)
    (v : Value) (n : Nat) (xs : List Value) (hs : a.eval s = v) (hO : w.ownsRow base e size v n xs) (B : Nat) (A' : Option Addr) (m c : Nat) (ys : List Value) (hx : a.eval x = .slice A' m c) (hY : Sl w B A' size m ys)
    (h1c : ∀ u ∈ ys, u.oneCell' = true) (b1 : n + m ≤ maxLen) (b2 : (n + m) * bytes ≤ 140737488355328) (hb : base ≤ w.heap.size)
    (hK : ∀ v' w', w'.ownsRow base e size v' (n + m) (xs ++ ys) → Below base w w' → wpList P ops Q rest (a.put o.dst v') w') : wpList P ops Q (o :: rest) a w :=
  wpList_plain hgd fun _ hK' => by
    obtain ⟨v', w', hr, q1, q2⟩ := run_app t o.type base e i z size bytes h1 h2 h3 h4 h5 h6 h7 v n xs hO B A' m c ys hY h1c b1 b2 hb
    unfold Oper.wp execOp
    simp only [ho, resolve, invoke, builtin, Sem.run_bind, Sem.run_pure, Result.andThen_ok, List.map_toArray, List.map_cons, List.map_nil, hs, hx, hr]
    exact hK' _ _ (hK v' w' q1 q2)
/-- One new cell as a slice. -/
theorem sl_one (w : World) (t : TypeId) (u : Value) : Sl (w.alloc (.cells #[u] t)) (w.heap.size + 1) (some ⟨w.heap.size, 0, none⟩) 1 1 [u] :=
  ⟨rfl, fun _ => ⟨w.heap.size, 0, rfl, Nat.lt_succ_self _, fun j v hj => by rw [show (w.alloc (.cells #[u] t)).cell? ⟨w.heap.size, 0 + j, none⟩ = [u][0 + j]? from (Blk.new w t [u]).cell _, Nat.zero_add]; exact hj⟩⟩
theorem below_new (w : World) (o : Obj) : Below w.heap.size w (w.alloc o) := (Below.refl _ _).alloc (Nat.le_refl _) _
theorem ones_one {u : Value} (h : u.oneCell' = true) : ∀ v ∈ [u], v.oneCell' = true := fun v hv => by rw [List.mem_singleton] at hv; subst hv; exact h
theorem own_is {w : World} {base : Nat} {e : TypeId} {size n n' : Nat} {v : Value} {xs xs' : List Value} (h : w.ownsRow base e size v n xs) (hn : n = n') (hx : xs = xs') : Hid (w.ownsRow base e size v n' xs') := by
  subst hn hx; exact h
/-- Block g alone has turned. -/
structure Turned (g : Nat) (w w' : World) : Prop where
  os : w'.os = w.os
  tape : w'.tape = w.tape
  output : w'.output = w.output
  size : w'.heap.size = w.heap.size
  block : ∀ k, k ≠ g → w'.heap[k]? = w.heap[k]?
section
variable {g : Nat} {w w' : World}
theorem Turned.below {B : Nat} {w0 : World} (h : Turned g w w') (hb : Below B w0 w) (hB : B ≤ g) : Below B w0 w' :=
  hb.trans ⟨h.os, h.tape, h.output, by rw [h.size]; exact Nat.le_refl _, fun k hk => h.block k (by omega)⟩
theorem Turned.blk {k : Nat} {t : TypeId} {cs : List Value} (h : Turned g w w') (hb : Blk w k t cs) (hk : k ≠ g) : Blk w' k t cs := (h.block k hk).trans hb
theorem Turned.cell {k o : Nat} (h : Turned g w w') (hk : k ≠ g) : w'.cell? ⟨k, o, none⟩ = w.cell? ⟨k, o, none⟩ := by unfold World.cell?; rw [h.block k hk]
theorem Turned.row (w : World) (g : Nat) (cs : Array Value) : Turned g w (w.setRow g cs) := ⟨rfl, rfl, rfl, by simp, fun k hk => setRow_other w g k cs hk⟩
end
/-- A store of a whole array. -/
theorem wpList_put {P : Program} {ops : Array Oper} {rest : List Oper} {o : Oper} {a : Act} {w : World} {Q : Exit → Act → World → Prop} (hgd : o.guard = none) (ty : TypeId) (x y : Operand) (ho : o.op = .store ty x y)
    (g : Nat) (cs old : List Value) (t : TypeId) (hx : a.eval x = .pointer (some ⟨g, 0, none⟩)) (hy : a.eval y = .agg cs.toArray) (hg : Blk w g t old) (hi : (P.info? ty).map (·.size) = some cs.length)
    (hold : old.length = cs.length) (h1 : ∀ u ∈ cs, u.oneCell' = true) (h : ∀ w', Turned g w w' → Blk w' g t cs → wpList P ops Q rest (a.put o.dst undef) w') : wpList P ops Q (o :: rest) a w :=
  wpList_store_row hgd ty x y ho g cs.toArray hx hy t old.toArray hg (by simpa using hi) (by simpa using hold) (all_oneCell_toArray h1) (h _ (Turned.row w g _) (Blk.row hg cs))
/-- A load of a whole array. -/
theorem wpList_get {P : Program} {ops : Array Oper} {rest : List Oper} {o : Oper} {a : Act} {w : World} {Q : Exit → Act → World → Prop} (hgd : o.guard = none) (ty : TypeId) (x : Operand) (ho : o.op = .load ty x)
    (g : Nat) (cs : List Value) (t : TypeId) (d : TypeDesc) (hx : a.eval x = .pointer (some ⟨g, 0, none⟩)) (hg : Blk w g t cs) (hu : P.underlying ty = some d) (hd : (match d with | .struct _ | .array _ _ => true | _ => false) = true)
    (hi : (P.info? ty).map (·.size) = some cs.length) (h : wpList P ops Q rest (a.put o.dst (.agg cs.toArray)) w) : wpList P ops Q (o :: rest) a w :=
  wpList_load_row hgd ty x ho g hx t cs.toArray (0, 0) d hg hu hd (by simpa using hi) h
/-- A result that lies in memory. -/
theorem ret_blk {P : Program} {fn : Func} {p : Tmp} {ty : TypeId} (h : fn.results = #[.cell p ty]) {tmps : Array Value} {w : World} {g : Nat} {t : TypeId} {cs : List Value} (hg : Blk w g t cs) (d : TypeDesc)
    (hp : tmps.getD p undef = .pointer (some ⟨g, 0, none⟩)) (hu : P.underlying ty = some d) (hd : (match d with | .struct _ | .array _ _ => true | _ => false) = true) (hi : (P.info? ty).map (·.size) = some cs.length) :
    (results fn tmps).run P w = .ok (.agg cs.toArray) w :=
  results_cell_row h tmps w g t cs.toArray (0, 0) d hp hg hu hd (by simpa using hi)
theorem wpList_wanted {P : Program} {ops : Array Oper} {rest : List Oper} {o : Oper} {a : Act} {w : World} {Q : Exit → Act → World → Prop} (hw : Region.wanted o (yielded ops a.tmps) = true) (h : o.wp P a w (wpList P ops Q rest) Q) : wpList P ops Q (o :: rest) a w := by
  unfold wpList
  rw [if_pos hw]
  exact .inl h
/-- A load of a whole array, behind a guard that let it by. -/
theorem wpList_get_g {P : Program} {ops : Array Oper} {rest : List Oper} {o : Oper} {a : Act} {w : World} {Q : Exit → Act → World → Prop} (hw : Region.wanted o (yielded ops a.tmps) = true) (ty : TypeId) (x : Operand) (ho : o.op = .load ty x)
    (g : Nat) (cs : List Value) (t : TypeId) (d : TypeDesc) (hx : a.eval x = .pointer (some ⟨g, 0, none⟩)) (hg : Blk w g t cs) (hu : P.underlying ty = some d) (hd : d.isRow = true)
    (hi : (P.info? ty).map (·.size) = some cs.length) (h : wpList P ops Q rest (a.put o.dst (.agg cs.toArray)) w) : wpList P ops Q (o :: rest) a w := by
  refine wpList_wanted hw ?_
  unfold Oper.wp execOp
  simp only [ho, hx, Sem.run_bind, run_load_blk hg ty d hu hd hi, Result.andThen_ok, Sem.run_pure]
  exact h
end

section
open Go.RowKit
set_option linter.unusedVariables false
section
variable {P : Program} {md : Region.Mode} {ops : Array Oper} {Q : Exit → Act → World → Prop} {S : World → Prop} {t : Nat}
/-- Operation t waits for operation i. -/
def waitsB (md : Region.Mode) (ops : Array Oper) (t i : Nat) : Bool :=
  match ops[t]? with
  | some o => t != i && o.after.any fun e => Region.binds md e && e.on == i
  | none => false
theorem waitsB_spec {t i : Nat} (h : waitsB md ops t i = true) : t ≠ i ∧ ∃ o e, ops[t]? = some o ∧ e ∈ o.after ∧ Region.binds md e = true ∧ e.on = i := by
  unfold waitsB at h
  split at h
  · rename_i o ho
    simp only [Bool.and_eq_true, bne_iff_ne, ne_eq] at h
    obtain ⟨h1, h2⟩ := h
    first
      | (obtain ⟨e, he, hb⟩ := List.any_eq_true.1 h2
         simp only [Bool.and_eq_true, beq_iff_eq] at hb
         exact ⟨h1, o, e, ho, he, hb.1, hb.2⟩)
      | (obtain ⟨e, he, hb⟩ := Array.any_eq_true'.1 h2
         simp only [Bool.and_eq_true, beq_iff_eq] at hb
         exact ⟨h1, o, e, ho, he, hb.1, hb.2⟩)
  · cases h
end
section
variable {P : Program} {md : Region.Mode} {ops : Array Oper} {Q : Exit → Act → World → Prop} {S : World → Prop} {t : Nat}
theorem set_self (b : Array Bool) (i : Nat) : (b.setIfInBounds i true).getD i true = true := by
  rw [Array.getD_eq_getD_getElem?, Array.getElem?_setIfInBounds]
  simp only [if_true]
  by_cases hlt : i < b.size <;> simp [hlt]
end
theorem exec_load_blk {P : Program} {ev : Operand → Value} {W : World} {o : Oper} {ty : TypeId} {x : Operand} {g : Nat} {t : TypeId} {cs : List Value} (ho : o.op = .load ty x) (hx : ev x = .pointer (some ⟨g, 0, none⟩)) (hg : Blk W g t cs) (d : TypeDesc)
    (hu : P.underlying ty = some d) (hd : d.isRow = true) (hi : (P.info? ty).map (·.size) = some cs.length) : (execOp ev o).run P W = .ok (.value (.agg cs.toArray)) W := by
  unfold execOp
  simp only [ho, hx, Sem.run_bind, run_load_blk hg ty d hu hd hi, Result.andThen_ok, Sem.run_pure]
theorem own_ne {w : World} {base : Nat} {e : TypeId} {size n : Nat} {v : Value} {xs : List Value} {g : Nat} {t : TypeId} {cs : List Value} (h : w.ownsRow base e size v n xs) (hb : Blk w g t cs) (ht : t ≠ e) : some g ≠ v.ownBlock := by
  rcases h.2 with ⟨rfl, _⟩ | ⟨k, cap, cur, rfl, _, hk, _⟩
  · simp [Value.ownBlock]
  · intro hc
    simp only [Value.ownBlock, Option.some.injEq] at hc
    subst hc
    unfold Blk at hb
    rw [hk] at hb
    injection hb with hb
    injection hb with _ hb
    exact ht hb.symm
theorem Blk.grown {w w' : World} {g : Nat} {t : TypeId} {cs : List Value} {row : Option Nat} (h : Blk w g t cs) (hg : w.grownBy w' row) (hne : some g ≠ row) : Blk w' g t cs := (hg.block g h.lt hne).trans h
theorem own_turned {w w' : World} {base : Nat} {e : TypeId} {size n : Nat} {v : Value} {xs : List Value} {g : Nat} {t : TypeId} {cs : List Value} (h : w.ownsRow base e size v n xs) (hb : Blk w g t cs) (ht : t ≠ e) (hw : Turned g w w') : w'.ownsRow base e size v n xs := by
  have hne := own_ne h hb ht
  refine ⟨h.1, ?_⟩
  rcases h.2 with h0 | ⟨k, cap, cur, rfl, hg, hh, r⟩
  · exact .inl h0
  · exact .inr ⟨k, cap, cur, rfl, hg, by rw [hw.block k (fun hk => hne (by rw [hk]; rfl))]; exact hh, r⟩
/-- Each condition holds as long as its operation has not come up. -/
def Hooks (L : List (Nat × (World → Prop))) (b : Array Bool) (w : World) : Prop := ∀ q ∈ L, b.getD q.1 true = false → q.2 w
theorem Hooks.nil (b : Array Bool) (w : World) : Hooks [] b w := fun q hq => by cases hq
theorem Hooks.add {t : Nat} {S : World → Prop} {L : List (Nat × (World → Prop))} {b : Array Bool} {w : World} (h : S w) (hL : Hooks L b w) : Hooks ((t, S) :: L) b w := fun q hq hb => by
  rcases List.mem_cons.1 hq with rfl | hq
  · exact h
  · exact hL q hq hb
theorem Hooks.skip {t : Nat} {S : World → Prop} {L : List (Nat × (World → Prop))} {b : Array Bool} {w : World} (h : b.getD t true = true) (hL : Hooks L b w) : Hooks ((t, S) :: L) b w := fun q hq hb => by
  rcases List.mem_cons.1 hq with rfl | hq
  · rw [h] at hb; cases hb
  · exact hL q hq hb
section
variable {P : Program} {md : Region.Mode} {ops : Array Oper} {Q : Exit → Act → World → Prop} {L : List (Nat × (World → Prop))}
def wpAnyL (P : Program) (md : Region.Mode) (ops : Array Oper) (Q : Exit → Act → World → Prop) (L : List (Nat × (World → Prop))) : Nat → Array Bool → Act → World → Prop
  | 0, b, a, w => Region.ready md ops b = [] ∧ Q .normal a w
  | fuel + 1, b, a, w =>
    (Region.ready md ops b = [] → Q .normal a w) ∧
    ∀ i ∈ Region.ready md ops b, wpOp P ops Q i (fun a' w' => Hooks L (b.setIfInBounds i true) w' ∧ wpAnyL P md ops Q L fuel (b.setIfInBounds i true) a' w') a w
theorem wpAny_of_L : ∀ (fuel : Nat) (b : Array Bool) (a : Act) (w : World), wpAnyL P md ops Q L fuel b a w → wpAny P md ops Q fuel b a w
  | 0, _, _, _, h => h
  | fuel + 1, _, _, _, h => ⟨h.1, fun i hi => wpOp_mono (fun a' w' h' => wpAny_of_L fuel _ a' w' h'.2) (h.2 i hi)⟩
theorem getD_set_true (b : Array Bool) (i t : Nat) (h : b.getD t true = true) : (b.setIfInBounds i true).getD t true = true := by
  by_cases hit : i = t
  · subst hit; exact set_self _ _
  · rw [getD_set_ne true hit]; exact h
theorem wpAnyL_of_any : ∀ (fuel : Nat) (b : Array Bool) (a : Act) (w : World), (∀ q ∈ L, b.getD q.1 true = true) → wpAny P md ops Q fuel b a w → wpAnyL P md ops Q L fuel b a w
  | 0, _, _, _, _, h => h
  | fuel + 1, b, _, _, hb, h => ⟨h.1, fun i hi => wpOp_mono (fun a' w' h' =>
      have hb' : ∀ q ∈ L, (b.setIfInBounds i true).getD q.1 true = true := fun q hq => getD_set_true b i q.1 (hb q hq)
      ⟨fun q hq hf => (by rw [hb' q hq] at hf; cases hf), wpAnyL_of_any fuel _ a' w' hb' h'⟩) (h.2 i hi)⟩
/-- Set or not, what is no operation of L's makes no difference to the conditions. -/
theorem Hooks.unset {i : Nat} {b : Array Bool} {w : World} (hi : ∀ q ∈ L, q.1 ≠ i) (h : Hooks L (b.setIfInBounds i true) w) : Hooks L b w := fun q hq hb =>
  h q hq (by rw [getD_set_ne true (Ne.symm (hi q hq))]; exact hb)
theorem Hooks.set {i : Nat} {b : Array Bool} {w : World} (hi : ∀ q ∈ L, q.1 ≠ i) (h : Hooks L b w) : Hooks L (b.setIfInBounds i true) w := fun q hq hb =>
  h q hq (by rw [getD_set_ne true (Ne.symm (hi q hq))] at hb; exact hb)
theorem wpAnyL_first {i t : Nat} {oi : Oper} {v : Value} {S : World → Prop} (hi : ops[i]? = some oi) (hsel : ∀ (j : Nat) (o : Oper) cs b, ops[j]? = some o → o.op ≠ .select cs b)
    (hQ : ∀ c a w, Q (.panic c) (a.put oi.dst v) w → Q (.panic c) a w) (hti : waitsB md ops t i = true) (hL : (t, S) ∈ L) (hno : ∀ q ∈ L, q.1 ≠ i) :
    ∀ (fuel : Nat) (listed : Array Bool) (a : Act) (w : World),
      (∀ j oj, ops[j]? = some oj → j ≠ i → listed.getD j true = false → (∀ e ∈ oj.after, Region.binds md e = true → e.on ≠ i) → oi.apart ops oj = true) →
      i ∈ Region.ready md ops listed → YieldsIf P ops S oi v a → Hooks L listed w → listed.getD t true = false →
      wpAnyL P md ops Q L fuel (listed.setIfInBounds i true) (a.put oi.dst v) w → wpAnyL P md ops Q L (fuel + 1) listed a w := by
  obtain ⟨hne, ot, et, hot, het, hbt, hon⟩ := waitsB_spec hti
  intro fuel
  induction fuel with
  | zero =>
    intro listed a w _ hr hy hS htl H
    refine ⟨fun h => (by rw [h] at hr; cases hr), fun j hj => ?_⟩
    by_cases hji : j = i
    · subst hji; exact hy.wpOp hi (hS _ hL htl) ⟨hS.set hno, H⟩
    · have := ready_mono hj hji
      rw [H.1] at this
      cases this
  | succ fuel ih =>
    intro listed a w hfree hr hy hS htl H
    refine ⟨fun h => (by rw [h] at hr; cases hr), fun j hj => ?_⟩
    by_cases hji : j = i
    · subst hji; exact hy.wpOp hi (hS _ hL htl) ⟨hS.set hno, H⟩
    · have h1 := H.2 j (ready_mono hj hji)
      obtain ⟨hjun, oj, hoj, hall⟩ := mem_ready.1 hj
      have hnot : ∀ e ∈ oj.after, Region.binds md e = true → e.on ≠ i := fun e he hb heq => by
        have h1 := hall e he hb
        have h0 := (mem_ready.1 hr).1
        rw [heq] at h1
        rcases Nat.lt_or_ge i listed.size with h' | h'
        · simp [h'] at h0 h1; rw [h0] at h1; cases h1
        · simp [Array.getElem?_eq_none h'] at h1
      have hjt : j ≠ t := fun he => by
        subst he
        rw [hoj] at hot
        obtain rfl := Option.some.inj hot
        exact hnot et het hbt hon
      have htl' : (listed.setIfInBounds j true).getD t true = false := by rw [getD_set_ne true hjt]; exact htl
      have h2 := wpOp_putIf hoj (hfree j oj hoj hji hjun hnot) (fun cs b => hsel i oi cs b hi) (fun cs b => hsel j oj cs b hoj) hQ hy h1
      have hfree' : ∀ k ok, ops[k]? = some ok → k ≠ i → (listed.setIfInBounds j true).getD k true = false →
          (∀ e ∈ ok.after, Region.binds md e = true → e.on ≠ i) → oi.apart ops ok = true := fun k ok hk hki hun hno' => by
        refine hfree k ok hk hki ?_ hno'
        by_cases hjk : j = k
        · subst hjk; exact hjun
        · rw [getD_set_ne true hjk] at hun; exact hun
      refine wpOp_mono (fun a' w' h3 => ?_) h2
      have hS2 : Hooks L (listed.setIfInBounds j true) w' := Hooks.unset hno (by rw [Array.setIfInBounds_comm _ _ hji]; exact h3.2.1)
      refine ⟨hS2, ih (listed.setIfInBounds j true) a' w' hfree' (ready_mono hr (Ne.symm hji)) h3.1 hS2 htl' ?_⟩
      rw [Array.setIfInBounds_comm _ _ hji]
      exact h3.2.2
theorem wpAnyL_freely {i : Nat} {oi : Oper} {v : Value} (hi : ops[i]? = some oi) (hsel : ∀ (j : Nat) (o : Oper) cs b, ops[j]? = some o → o.op ≠ .select cs b)
    (hQ : ∀ c a w, Q (.panic c) (a.put oi.dst v) w → Q (.panic c) a w) (hno : ∀ q ∈ L, q.1 ≠ i) :
    ∀ (fuel : Nat) (listed : Array Bool) (a : Act) (w : World),
      (∀ j oj, ops[j]? = some oj → j ≠ i → listed.getD j true = false → (∀ e ∈ oj.after, Region.binds md e = true → e.on ≠ i) → oi.apart ops oj = true) →
      i ∈ Region.ready md ops listed → YieldsIf P ops (fun _ => True) oi v a → Hooks L listed w →
      wpAnyL P md ops Q L fuel (listed.setIfInBounds i true) (a.put oi.dst v) w → wpAnyL P md ops Q L (fuel + 1) listed a w := by
  intro fuel
  induction fuel with
  | zero =>
    intro listed a w _ hr hy hS H
    refine ⟨fun h => (by rw [h] at hr; cases hr), fun j hj => ?_⟩
    by_cases hji : j = i
    · subst hji; exact hy.wpOp hi trivial ⟨hS.set hno, H⟩
    · have := ready_mono hj hji
      rw [H.1] at this
      cases this
  | succ fuel ih =>
    intro listed a w hfree hr hy hS H
    refine ⟨fun h => (by rw [h] at hr; cases hr), fun j hj => ?_⟩
    by_cases hji : j = i
    · subst hji; exact hy.wpOp hi trivial ⟨hS.set hno, H⟩
    · have h1 := H.2 j (ready_mono hj hji)
      obtain ⟨hjun, oj, hoj, hall⟩ := mem_ready.1 hj
      have hnot : ∀ e ∈ oj.after, Region.binds md e = true → e.on ≠ i := fun e he hb heq => by
        have h1 := hall e he hb
        have h0 := (mem_ready.1 hr).1
        rw [heq] at h1
        rcases Nat.lt_or_ge i listed.size with h' | h'
        · simp [h'] at h0 h1; rw [h0] at h1; cases h1
        · simp [Array.getElem?_eq_none h'] at h1
      have h2 := wpOp_putIf (S := fun _ => True) hoj (hfree j oj hoj hji hjun hnot) (fun cs b => hsel i oi cs b hi) (fun cs b => hsel j oj cs b hoj) hQ hy h1
      have hfree' : ∀ k ok, ops[k]? = some ok → k ≠ i → (listed.setIfInBounds j true).getD k true = false →
          (∀ e ∈ ok.after, Region.binds md e = true → e.on ≠ i) → oi.apart ops ok = true := fun k ok hk hki hun hno' => by
        refine hfree k ok hk hki ?_ hno'
        by_cases hjk : j = k
        · subst hjk; exact hjun
        · rw [getD_set_ne true hjk] at hun; exact hun
      refine wpOp_mono (fun a' w' h3 => ?_) h2
      have hS2 : Hooks L (listed.setIfInBounds j true) w' := Hooks.unset hno (by rw [Array.setIfInBounds_comm _ _ hji]; exact h3.2.1)
      refine ⟨hS2, ih (listed.setIfInBounds j true) a' w' hfree' (ready_mono hr (Ne.symm hji)) h3.1 hS2 ?_⟩
      rw [Array.setIfInBounds_comm _ _ hji]
      exact h3.2.2
/-- No operation of L's has the number i. -/
def freeB (L : List (Nat × (World → Prop))) (i : Nat) : Bool := L.all fun q => q.1 != i
theorem freeB_spec {i : Nat} (h : freeB L i = true) : ∀ q ∈ L, q.1 ≠ i := fun q hq => by
  have := List.all_eq_true.1 h q hq
  simpa using this
theorem wpAnyL_take (i t : Nat) {oi : Oper} (v : Value) (S : World → Prop) {fuel : Nat} {listed : Array Bool} {a : Act} {w : World} (hi : ops[i]? = some oi)
    (hs : Region.noSelect ops = true) (hf : Region.free md ops listed i = true) (hr : (Region.ready md ops listed).contains i = true) (hti : waitsB md ops t i = true) (htl : listed.getD t true = false) (hno : freeB L i = true) (hL : (t, S) ∈ L)
    (hQ : ∀ c a w, Q (.panic c) (a.put oi.dst v) w → Q (.panic c) a w) (hw : Region.wanted oi (yielded ops a.tmps) = true) (hy : ∀ w, S w → (execOp a.eval oi).run P w = .ok (.value v) w) (hS : Hooks L listed w)
    (h : wpAnyL P md ops Q L fuel (listed.setIfInBounds i true) (a.put oi.dst v) w) : wpAnyL P md ops Q L (fuel + 1) listed a w :=
  wpAnyL_first hi (Region.noSelect_spec hs) hQ hti hL (freeB_spec hno) fuel listed a w (Region.free_spec hi hf) (by simpa using hr) (.inl ⟨hw, hy⟩) hS htl h
theorem wpAnyL_move (i : Nat) {oi : Oper} (v : Value) {fuel : Nat} {listed : Array Bool} {a : Act} {w : World} (hi : ops[i]? = some oi)
    (hs : Region.noSelect ops = true) (hf : Region.free md ops listed i = true) (hr : (Region.ready md ops listed).contains i = true) (hno : freeB L i = true)
    (hQ : ∀ c a w, Q (.panic c) (a.put oi.dst v) w → Q (.panic c) a w) (hw : Region.wanted oi (yielded ops a.tmps) = true) (hy : ∀ w, (execOp a.eval oi).run P w = .ok (.value v) w) (hS : Hooks L listed w)
    (h : wpAnyL P md ops Q L fuel (listed.setIfInBounds i true) (a.put oi.dst v) w) : wpAnyL P md ops Q L (fuel + 1) listed a w :=
  wpAnyL_freely hi (Region.noSelect_spec hs) hQ (freeB_spec hno) fuel listed a w (Region.free_spec hi hf) (by simpa using hr) (.inl ⟨hw, fun w _ => hy w⟩) hS h
theorem wpAnyL_one (i : Nat) {o : Oper} {fuel : Nat} {listed : Array Bool} {a : Act} {w : World} (hr : Region.ready md ops listed = [i]) (ho : ops[i]? = some o)
    (h : ∀ K : Act → World → Prop, (∀ a' w', Hooks L (listed.setIfInBounds i true) w' → wpAnyL P md ops Q L fuel (listed.setIfInBounds i true) a' w' → K a' w') →
      wpList P ops (Exit.then K Q) [o] a w) : wpAnyL P md ops Q L (fuel + 1) listed a w := by
  refine ⟨fun h0 => (by rw [hr] at h0; cases h0), fun j hj => ?_⟩
  rw [hr, List.mem_singleton] at hj
  subst hj
  have h1 := h (fun a' w' => Hooks L (listed.setIfInBounds j true) w' ∧ wpAnyL P md ops Q L fuel (listed.setIfInBounds j true) a' w') (fun a' w' p q => ⟨p, q⟩)
  unfold wpOp
  simp only [ho]
  unfold wpList at h1
  split
  · rename_i hw
    rw [if_pos hw] at h1
    rcases h1 with h1 | ⟨h1, a0, w0, h2⟩
    · refine .inl ?_
      unfold Oper.wp at h1 ⊢
      generalize (execOp a.eval o).run P w = r at h1 ⊢
      cases r with
      | ok n w' =>
        cases n <;> simp only [Oper.upon] at h1 ⊢
        case value u => exact h1
        case skip => exact h1
        case defer d => exact h1
        case enter f args =>
          refine Calls.mono h1 fun e w'' he => ?_
          cases e <;> exact he
        case row row args => exact h1
      | halt x w' =>
        cases x <;> simp only [Oper.upon] at h1 ⊢
        case panic u => exact h1
    · exact .inr ⟨h1, a0, w0, h2⟩
  · rename_i hw
    rw [if_neg hw] at h1
    exact h1
/-- What is left, from operation t on, is forced; every condition's operation has come up, or stands next. -/
theorem wpAnyL_last {b : Array Bool} {t : Nat} (hr : Region.ready md ops b = [t]) (hL : (L.all fun q => b.getD q.1 true || q.1 == t) = true) :
    ∀ (fuel : Nat) (a : Act) (w : World), wpAny P md ops Q fuel b a w → wpAnyL P md ops Q L fuel b a w
  | 0, _, _, h => h
  | fuel + 1, _, _, h => ⟨h.1, fun i hi => wpOp_mono (fun a' w' h' => by
      have hit : i = t := by rw [hr, List.mem_singleton] at hi; exact hi
      subst hit
      have hb' : ∀ q ∈ L, (b.setIfInBounds i true).getD q.1 true = true := fun q hq => by
        have := List.all_eq_true.1 hL q hq
        simp only [Bool.or_eq_true, beq_iff_eq] at this
        rcases this with h0 | h0
        · exact getD_set_true b i q.1 h0
        · rw [h0]; exact set_self _ _
      exact ⟨fun q hq hf => (by rw [hb' q hq] at hf; cases hf), wpAnyL_of_any fuel _ a' w' hb' h'⟩) (h.2 i hi)⟩
end
theorem loads_begin {P : Program} {id : Nat} {Q : Exit → Act → World → Prop} {a : Act} {w : World} {l : List Oper} (L : List (Nat × (World → Prop))) (hm : P.follows .mixedOrders = true)
    (h : wpAnyL P .any l.toArray Q L l.length (Array.replicate l.length false) a w.drew) : (Code.region id l.toArray true).wp P Q a w := by
  refine wp_region_any hm ?_
  have := wpAny_of_L _ _ _ _ h
  simpa using this
/-- The beginning, the number of operations written out: the goals stay small. -/
theorem loads_begin_n {P : Program} {id : Nat} {Q : Exit → Act → World → Prop} {a : Act} {w : World} {l : List Oper} (n : Nat) (L : List (Nat × (World → Prop))) (hn : l.length = n) (hm : P.follows .mixedOrders = true)
    (h : wpAnyL P .any l.toArray Q L n (Array.replicate n false) a w.drew) : (Code.region id l.toArray true).wp P Q a w := by
  subst hn
  exact loads_begin L hm h
theorem loads_tail {P : Program} {Q : Exit → Act → World → Prop} {a : Act} {w : World} {l : List Oper} {L : List (Nat × (World → Prop))} (t : Nat) {listed : Array Bool} {fuel : Nat} (hf : fuel = l.length - t) (hr : Region.ready .any l.toArray listed = [t])
    (hL : (L.all fun q => listed.getD q.1 true || q.1 == t) = true) (hB : Region.seqB .any l.toArray (l.length - t) t listed = true) (h : wpList P l.toArray Q (l.drop t) a w) : wpAnyL P .any l.toArray Q L fuel listed a w := by
  subst hf
  have h2 := wpAny_of_seq (md := .any) (Q' := Q) (l.drop t) t listed a w (fun j => by simp [List.getElem?_drop]) (by rw [List.length_drop]; exact hB) h
  rw [List.length_drop] at h2
  exact wpAnyL_last hr hL _ _ _ h2
theorem loads_done {P : Program} {md : Region.Mode} {ops : Array Oper} {Q : Exit → Act → World → Prop} {L : List (Nat × (World → Prop))} {listed : Array Bool} {a : Act} {w : World} {fuel : Nat} (hr : Region.ready md ops listed = []) (h : Q .normal a w) : wpAnyL P md ops Q L fuel listed a w := by
  cases fuel with
  | zero => exact ⟨hr, h⟩
  | succ n => exact ⟨fun _ => h, by rw [hr]; simp⟩
end

section
section
set_option linter.unusedVariables false
set_option linter.unusedSimpArgs false
def All2 {α β : Type} (P : α → β → Prop) : List α → List β → Prop
  | [], [] => True
  | a :: r, b :: s => P a b ∧ All2 P r s
  | _, _ => False
end
section
open Go.RowKit
set_option linter.unusedVariables false
set_option linter.unusedSimpArgs false
theorem All2.imp {α β : Type} {P Q : α → β → Prop} (h : ∀ a b, P a b → Q a b) : ∀ {us : List α} {bs : List β}, All2 P us bs → All2 Q us bs
  | [], [], _ => trivial
  | [], b :: bs, hh => hh.elim
  | a :: us, [], hh => hh.elim
  | a :: us, b :: bs, hh => ⟨h a b hh.1, All2.imp h hh.2⟩
theorem All2.snoc {α β : Type} {P : α → β → Prop} {a : α} {b : β} (h : P a b) : ∀ {us : List α} {bs : List β}, All2 P us bs → All2 P (us ++ [a]) (bs ++ [b])
  | [], [], _ => ⟨h, trivial⟩
  | [], c :: bs, hh => hh.elim
  | c :: us, [], hh => hh.elim
  | c :: us, d :: bs, hh => ⟨hh.1, All2.snoc h hh.2⟩
theorem All2.at_ {α β : Type} {P : α → β → Prop} : ∀ {us : List α} {bs : List β}, All2 P us bs → ∀ {i : Nat} {a : α}, us[i]? = some a → ∃ b, bs[i]? = some b ∧ P a b
  | [], [], _, i, a, h => by simp at h
  | [], c :: bs, hh, _, _, _ => hh.elim
  | c :: us, [], hh, _, _, _ => hh.elim
  | c :: us, d :: bs, hh, 0, a, h => by
    injection h with h
    exact ⟨d, rfl, h ▸ hh.1⟩
  | c :: us, d :: bs, hh, i + 1, a, h => by
    have h' : us[i]? = some a := h
    obtain ⟨b, h1, h2⟩ := All2.at_ hh.2 h'
    exact ⟨b, h1, h2⟩
theorem own_set {w : World} {B g n k : Nat} {e t : TypeId} {v : Value} {xs cs : List Value} (h : w.ownsRow B e k v n xs) (hb : Blk w g t cs) (ht : t ≠ e) (i : Nat) (u : Value) : (w.setCell ⟨g, i, none⟩ u).ownsRow B e k v n xs := by
  refine h.kept (row := some g) ⟨rfl, rfl, rfl, by simp [World.setCell], fun k hk hne => heap_setCell_other _ _ _ _ (fun e => hne (by rw [e]))⟩ (.inr fun e => ?_)
  exact own_ne h hb ht e.symm
end
section
open Go.RowKit
set_option linter.unusedVariables false
theorem i_eql (T : TypeId) (k : IntKind) (a b : Int) : binOp .eql T (.int k a) (.int k b) = pure (.bool (decide (a = b))) := by
  have h : decide (a = b) = (a == b) := by rw [Bool.eq_iff_iff, decide_eq_true_iff, beq_iff_eq]
  rw [h, binOp_eql]
theorem i_neq (T : TypeId) (k : IntKind) (a b : Int) : binOp .neq T (.int k a) (.int k b) = pure (.bool (decide (a ≠ b))) := by
  have h : decide (a ≠ b) = (a != b) := by rw [Bool.eq_iff_iff, decide_eq_true_iff, bne_iff_ne]
  rw [h, binOp_neq]
end
section
open Go.RowKit
set_option linter.unusedVariables false
set_option linter.unusedSimpArgs false
/-- Rows in memory, to read. -/
def PM (w : World) (B : Nat) (A : Option Addr) (par : List (List Int)) : Prop :=
  ∃ vs : List Value, Sl w B A 1 par.length vs ∧ All2 (fun (l : List Int) u => ∃ A c, u = .slice A l.length c ∧ Sl w B A 1 l.length (l.map iv)) par vs
theorem PM.imp {w w' : World} {B B' : Nat} {A : Option Addr} {par : List (List Int)} (hT : ∀ A n xs, Sl w B A 1 n xs → Sl w' B' A 1 n xs) (h : PM w B A par) : PM w' B' A par := by
  obtain ⟨vs, h1, h2⟩ := h
  exact ⟨vs, hT _ _ _ h1, All2.imp (fun l u ⟨A, c, h3, h4⟩ => ⟨A, c, h3, hT _ _ _ h4⟩) h2⟩
theorem PM.below {w w' : World} {B : Nat} {A : Option Addr} {par : List (List Int)} (h : PM w B A par) (hb : Below B w w') : PM w' B A par := h.imp (fun _ _ _ h => h.below hb)
theorem PM.wide {w : World} {B B' : Nat} {A : Option Addr} {par : List (List Int)} (h : PM w B A par) (hB : B ≤ B') : PM w B' A par := h.imp (fun _ _ _ h => h.wide hB)
theorem PM.row {w : World} {B : Nat} {A : Option Addr} {par : List (List Int)} (h : PM w B A par) {j : Nat} (hj : j < par.length) :
    ∃ b o A' c', A = some ⟨b, o, none⟩ ∧ b < B ∧ w.cell? ⟨b, o + j, none⟩ = some (.slice A' (par[j]).length c') ∧ Sl w B A' 1 (par[j]).length ((par[j]).map iv) := by
  obtain ⟨vs, h1, h2⟩ := h
  obtain ⟨b, o, u, hA, hb, hu, hc⟩ := h1.at_ hj
  obtain ⟨u', hu', A', c', rfl, hs⟩ := All2.at_ h2 (List.getElem?_eq_getElem hj)
  rw [hu] at hu'
  injection hu' with hu'
  subst hu'
  exact ⟨b, o, A', c', hA, hb, hc, hs⟩
theorem PM.nil (w : World) (B : Nat) (A : Option Addr) : PM w B A [] := ⟨[], Sl.nil _ _ _ _, trivial⟩
end
section
open Go.RowKit
set_option linter.unusedVariables false
set_option linter.unusedSimpArgs false
/-- A function value that asks K of a number. -/
def AsksI (w : World) (v : Value) (K : Int → Bool) : Prop :=
  ∃ f caps, v = .func (.func f) #[] caps ∧ Enters Tryd.prog f ∧ ∀ x : Int, Calls Tryd.prog f (#[.int .i64 x] ++ caps) w fun e w' => e = .returned (.bool (K x)) ∧ w = w'
set_option maxHeartbeats 1000000 in
theorem indexI_any (l : List Int) (hl : l.length ≤ 9223372036854775807) (A : Option Addr) (c B : Nat) (kv : Value) (K : Int → Bool) (w : World) (hs : Sl w B A 1 l.length (l.map iv)) (hK : AsksI w kv K) :
    Calls Tryd.prog 104 #[.slice A l.length c, kv] w fun e w' => ∃ z : Int, e = .returned (.int .i64 z) ∧ decide (z ≥ 0) = l.any K ∧ w = w' := by
  obtain ⟨f, caps, rfl, hen, hdo⟩ := hK
  unfold Enters at hen
  have HD := hideIt hdo
  have HS := hideIt hs
  obtain ⟨n, hn⟩ : ∃ n, n = l.length := ⟨_, rfl⟩
  rw [← hn] at hl ⊢
  have HN := hideIt hn
  clear hdo hs hn
  go_enter Tryd.func104, Tryd.ntmps104
  go_wp2_with fail
  go_loopg [8] n (fun g s8 wr => ∃ j : Nat, j + g = n ∧ s8 = .int .i64 (j : Int) ∧ wr = w ∧ Aside ((l.take j).any K = false))
  case atStart => exact ⟨0, by omega, rfl, rfl, rfl⟩
  case round =>
    obtain ⟨j, hj, rfl, rfl, HI⟩ := hrel
    by_cases hlt : j < n
    · have hjl : j < l.length := by rw [← HN.out]; exact hlt
      obtain ⟨b, o, hA, hb, hcell⟩ := HS.out.num hjl
      subst hA
      have HT := hideIt (take_snoc l j hjl)
      have HM := hideIt (List.getElem_mem hjl)
      have hinc : binOp .add 3 (.int .i64 (j : Int)) (.int .i64 1) = pure (.int .i64 ((j + 1 : Nat) : Int)) := by
        rw [binOp_add]
        simp only [Op.intArith]
        rw [IntWalk.i64_in _ (by omega)]
        rfl
      have hji : (j : Int) < (n : Int) := by omega
      have HX := hideIt (HD.out l[j])
      generalize l[j] = x at *
      clear hjl hb
      cases hk : K x with
      | true =>
        rw [hk] at HX
        have HK := hideIt hk
        clear hk
        go_wp2_with (go_at_fn f; refine HX.out.mono ?_; rintro e w' ⟨rfl, rfl⟩)
        go_ret
        exact ⟨_, rfl, by rw [List.any_eq_true.2 ⟨x, HM.out, HK.out⟩]; simp, rfl⟩
      | false =>
        rw [hk] at HX
        have HK := hideIt hk
        clear hk
        go_wp2_with (go_at_fn f; refine HX.out.mono ?_; rintro e w' ⟨rfl, rfl⟩)
        go_roundg (gk - 1)
        case measure => omega
        case rel =>
          refine ⟨j + 1, by omega, by go_num, rfl, ?_⟩
          show (l.take (j + 1)).any K = false
          rw [HT.out, List.any_append, HI.out]
          simp [HK.out]
    · have hji : ¬ (j : Int) < (n : Int) := by omega
      have HE : Hid (l.any K = false) := by
        have := HI.out
        rw [List.take_of_length_le (by rw [← HN.out]; omega)] at this
        exact this
      go_wp2_with fail
      go_ret
      exact ⟨_, rfl, by rw [HE.out]; decide, rfl⟩
set_option maxHeartbeats 400000 in
theorem containsI_any (l : List Int) (hl : l.length ≤ 9223372036854775807) (A : Option Addr) (c B : Nat) (kv : Value) (K : Int → Bool) (w : World) (hs : Sl w B A 1 l.length (l.map iv)) (hK : AsksI w kv K) :
    Calls Tryd.prog 94 #[.slice A l.length c, kv] w fun e w' => e = .returned (.bool (l.any K)) ∧ w = w' := by
  have HX := hideIt (indexI_any l hl A c B kv K w hs hK)
  obtain ⟨f, caps, rfl, _, _⟩ := hK
  clear hs
  cases hk : l.any K with
  | true =>
    rw [hk] at HX
    go_enter Tryd.func94, Tryd.ntmps94
    go_wp2_with (go_at_call 104; refine HX.out.mono ?_; rintro e w' ⟨z, rfl, hz, rfl⟩; have hz := of_decide_eq_true hz)
    go_ret
    exact ⟨rfl, rfl⟩
  | false =>
    rw [hk] at HX
    go_enter Tryd.func94, Tryd.ntmps94
    go_wp2_with (go_at_call 104; refine HX.out.mono ?_; rintro e w' ⟨z, rfl, hz, rfl⟩; have hz := of_decide_eq_false hz)
    go_ret
    exact ⟨rfl, rfl⟩
end
end

section
section
open Go.RowKit
set_option linter.unusedVariables false
/-- Two rows are not in one place. -/
def Apart (u v : Value) : Prop := ∀ k, u.ownBlock = some k → v.ownBlock ≠ some k
theorem Apart.symm {u v : Value} (h : Apart u v) : Apart v u := fun k h1 h2 => h k h2 h1
theorem Apart.kept {u v : Value} (h : Apart u v) : u.ownBlock = none ∨ u.ownBlock ≠ v.ownBlock := by
  cases hu : u.ownBlock with
  | none => exact .inl rfl
  | some k => exact .inr (fun e => h k hu e.symm)
def upd {α : Type} (f : Nat → α) (i : Nat) (x : α) (j : Nat) : α := if j = i then x else f j
/-- Rows of the call's own. -/
structure RN (N : Nat) (es : Nat → TypeId) (w : World) (B : Nat) (vs : Nat → Value) (ks : Nat → Nat) (ls : Nat → List Value) : Prop where
  own : ∀ i, i < N → w.ownsRow B (es i) 1 (vs i) (ks i) (ls i)
  apart : ∀ i j, i < N → j < N → i ≠ j → Apart (vs i) (vs j)
theorem RN.below {N : Nat} {es : Nat → TypeId} {w w' : World} {B : Nat} {vs : Nat → Value} {ks : Nat → Nat} {ls : Nat → List Value} (h : RN N es w B vs ks ls) (hb : Below w.heap.size w w') : RN N es w' B vs ks ls :=
  ⟨fun i hi => own_kept (h.own i hi) hb, h.apart⟩
theorem RN.step {N : Nat} {es : Nat → TypeId} {w w' : World} {B : Nat} {vs : Nat → Value} {ks : Nat → Nat} {ls : Nat → List Value} (h : RN N es w B vs ks ls) (i : Nat) (hi : i < N) {v' : Value} {k' : Nat} {l' : List Value}
    (hg : w.grownBy w' (vs i).ownBlock) (ho : w'.ownsRow B (es i) 1 v' k' l') (hat : v'.ownBlock = (vs i).ownBlock ∨ v'.ownBlock = some w.heap.size) : RN N es w' B (upd vs i v') (upd ks i k') (upd ls i l') := by
  have new : ∀ j, j < N → j ≠ i → Apart (vs j) v' := fun j hj hne k hk hk' => by
    rcases hat with e | e
    · rw [e] at hk'; exact h.apart j i hj hi hne k hk hk'
    · rw [e] at hk'
      have := (h.own j hj).lt k hk
      injection hk' with hk'
      omega
  refine ⟨fun j hj => ?_, fun a b ha hb hab => ?_⟩
  · unfold upd
    by_cases e : j = i
    · subst e
      rw [if_pos rfl, if_pos rfl, if_pos rfl]; exact ho
    · rw [if_neg e, if_neg e, if_neg e]
      exact (h.own j hj).kept hg (h.apart j i hj hi e).kept
  · unfold upd
    by_cases e1 : a = i
    · have e2 : b ≠ i := fun e2 => hab (e1.trans e2.symm)
      rw [if_pos e1, if_neg e2]
      exact (new b hb e2).symm
    · rw [if_neg e1]
      by_cases e2 : b = i
      · rw [if_pos e2]; exact new a ha e1
      · rw [if_neg e2]; exact h.apart a b ha hb hab
theorem RN.none (N : Nat) (es : Nat → TypeId) (w : World) (B : Nat) : RN N es w B (fun _ => .slice none 0 0) (fun _ => 0) (fun _ => []) :=
  ⟨fun i _ => World.ownsRow_nil _ _ _ _, fun i j _ _ _ k hk => by cases hk⟩
end
end

section
open Go.RowKit Go.Shelf
set_option linter.unusedVariables false
/-- Of what lay, at most the blocks of T are turned. -/
structure Keeps (T : Nat → Prop) (W W' : World) : Prop where
  os : W'.os = W.os
  tape : W'.tape = W.tape
  output : W'.output = W.output
  size : W.heap.size ≤ W'.heap.size
  block : ∀ k, k < W.heap.size → ¬ T k → W'.heap[k]? = W.heap[k]?
theorem Keeps.refl (T : Nat → Prop) (W : World) : Keeps T W W := ⟨rfl, rfl, rfl, Nat.le_refl _, fun _ _ _ => rfl⟩
theorem Keeps.trans {T : Nat → Prop} {a b c : World} (h : Keeps T a b) (k : Keeps T b c) : Keeps T a c :=
  ⟨k.os.trans h.os, k.tape.trans h.tape, k.output.trans h.output, Nat.le_trans h.size k.size, fun i hi ht => (k.block i (Nat.lt_of_lt_of_le hi h.size) ht).trans (h.block i hi ht)⟩
theorem Keeps.wide {T T' : Nat → Prop} {a b : World} (h : Keeps T a b) (ht : ∀ k, T k → T' k) : Keeps T' a b := ⟨h.os, h.tape, h.output, h.size, fun k hk hn => h.block k hk (fun hh => hn (ht k hh))⟩
theorem Keeps.of_below {T : Nat → Prop} {a b : World} (h : Below a.heap.size a b) : Keeps T a b := ⟨h.os, h.tape, h.output, h.size, fun k hk _ => h.block k hk⟩
theorem Keeps.later {T : Nat → Prop} {a b c : World} (h : Keeps T a b) (k : Below a.heap.size b c) : Keeps T a c :=
  ⟨k.os.trans h.os, k.tape.trans h.tape, k.output.trans h.output, Nat.le_trans h.size k.size, fun i hi ht => (k.block i hi).trans (h.block i hi ht)⟩
theorem Keeps.below {T : Nat → Prop} {B : Nat} {a b : World} (h : Keeps T a b) (hB : B ≤ a.heap.size) (ht : ∀ k, k < B → ¬ T k) : Below B a b := ⟨h.os, h.tape, h.output, h.size, fun k hk => h.block k (Nat.lt_of_lt_of_le hk hB) (ht k hk)⟩
theorem Keeps.setCell {T : Nat → Prop} {a b : World} (h : Keeps T a b) {p : Addr} (hp : T p.block) (u : Value) : Keeps T a (b.setCell p u) :=
  h.trans ⟨rfl, rfl, rfl, by simp [World.setCell], fun k hk hn => Below.heap_setCell _ _ _ _ (fun e => hn (e ▸ hp))⟩
theorem Keeps.drew {T : Nat → Prop} {a b : World} (h : Keeps T a b) : Keeps T a b.drew := ⟨h.os, h.tape, h.output, h.size, h.block⟩
theorem Keeps.alloc {T : Nat → Prop} {a b : World} (h : Keeps T a b) (o : Obj) : Keeps T a (b.alloc o) :=
  h.trans ⟨rfl, rfl, rfl, by simp, fun k hk _ => Below.heap_alloc _ _ _ hk⟩
theorem putObj_size (W : World) (l : Nat) (o : Obj) : (W.putObj l o).heap.size = W.heap.size := by simp [World.putObj]
theorem Keeps.putObj {T : Nat → Prop} {a b : World} (h : Keeps T a b) {l : Nat} (hl : T l) (o : Obj) : Keeps T a (b.putObj l o) :=
  h.trans ⟨rfl, rfl, rfl, by rw [putObj_size]; exact Nat.le_refl _, fun k hk hn => World.putObj_heap_other (fun e => hn (e ▸ hl))⟩
theorem below_putObj {B : Nat} (W : World) {l : Nat} (hl : B ≤ l) (o : Obj) : Below B W (W.putObj l o) :=
  ⟨rfl, rfl, rfl, by rw [putObj_size]; exact Nat.le_refl _, fun k hk => World.putObj_heap_other (by omega)⟩
theorem Keeps.cell {T : Nat → Prop} {a b : World} (h : Keeps T a b) {p : Addr} (hp : p.block < a.heap.size) (hn : ¬ T p.block) : b.cell? p = a.cell? p := World.cell?_of_block (w := a) (h.block p.block hp hn)
/-- What hangs on the blocks below B alone. -/
def Low {β : Type} (B : Nat) (J : β → World → Prop) : Prop := ∀ s W W', J s W → Below B W W' → J s W'
/-- An iterator: whatever its caller's invariants J, Jx are (they hang on what lay when it was called), it yields the elements of xs in their order until a round says 'no more'. C: the blocks that it reads. -/
def Iter {α : Type} (P : Program) (gf : Nat) (lb : Array Value) (encs : α → Array Value) (xs : List α) (C : Nat → Prop) (w0 : World) : Prop :=
  ∀ (l : Nat) (T : Nat → Prop) (J Jx : List α → World → Prop) (W : World), (∀ k, C k → k < w0.heap.size ∧ W.heap[k]? = w0.heap[k]?) → (∀ k, T k → k < W.heap.size ∧ ¬ C k) →
    Low W.heap.size J → Low W.heap.size Jx →
    (∀ pre x W1, pre ++ [x] <+: xs → Keeps T W W1 → J pre W1 → YieldAt Fence.wide 0 P l (encs x) W1 fun e W' =>
      (e = .returned (.bool true) ∧ Keeps T W1 W' ∧ J (pre ++ [x]) W') ∨ (e = .returned (.bool false) ∧ Keeps T W1 W' ∧ Jx (pre ++ [x]) W')) →
    J [] W →
    CallsIn Fence.wide 0 P gf (#[.func (.yield l) #[] #[]] ++ lb) W fun e W' => (∃ v, e = .returned v) ∧ Keeps T W W' ∧ (J xs W' ∨ ∃ pre, pre <+: xs ∧ Jx pre W')
/-- How a round's body may be left. -/
def roundEnd {α : Type} (T : Nat → Prop) (I : List α → World → Prop) (Ix : Code → List α → World → Prop) (xs : List α) (W : World) : Exit → Act → World → Prop
  | .normal, _, W' => Keeps T W W' ∧ I xs W'
  | .ret, _, W' => Keeps T W W' ∧ Ix .ret xs W'
  | .exit id, _, W' => Keeps T W W' ∧ Ix (.exit id) xs W'
  | .goto t, _, W' => Keeps T W W' ∧ Ix (.goto t) xs W'
  | .panic _, _, _ => False
  | .outgrown, _, _ => False
variable {P : Program}
theorem range_any {α : Type} {g : Operand} {ps : Array Tmp} {assign body : Code} {Q : Exit → Act → World → Prop} {a : Act} {w : World}
    {gf : Nat} {lb : Array Value} (hg : a.eval g = .func (.func gf) #[] lb) (eg : Enters P gf)
    {encs : α → Array Value} {xs : List α} {C : Nat → Prop} {w0 : World} (hseq : Iter P gf lb encs xs C w0) (hC : ∀ k, C k → k < w0.heap.size ∧ w.heap[k]? = w0.heap[k]?)
    (hps : ∀ x, (encs x).size = ps.size) (T : Nat → Prop) (hT : ∀ k, T k → k < w.heap.size ∧ ¬ C k)
    (I : List α → World → Prop) (Ix : Code → List α → World → Prop) (hI : Low w.heap.size I) (hIx : ∀ c, Low w.heap.size (Ix c)) (h0 : I [] w) (a₁ : α → Act)
    (hassign : ∀ (l : Nat) (x : α) (W : World) (K : Act → World → Prop), K (a₁ x) W →
      assign.wpIn (Fence.wide.inRound l) 0 P (Exit.then K (fun _ _ _ => False)) { tmps := (ps.zip (encs x)).foldl (fun t (p, v) => t.setIfInBounds p v) a.tmps, defers := [] } W)
    (hbody : ∀ (l : Nat) (pre : List α) (x : α) (W : World), pre ++ [x] <+: xs → Keeps T w W → I pre W → body.wpIn (Fence.wide.inRound l) 0 P (roundEnd T I Ix (pre ++ [x]) W) (a₁ x) W)
    (hdone : ∀ (D : Nat) (W : World), w.heap.size ≤ D → Keeps T w W → I xs W → W.heap[D]? = some (.deferred (some [])) → Q .normal { a with defers := { target := .collected D, args := #[] } :: a.defers } W)
    (hstop : ∀ (D : Nat) (c : Code) (pre : List α) (W : World), w.heap.size ≤ D → Keeps T w W → pre <+: xs → Ix c pre W → W.heap[D]? = some (.deferred (some [])) → c.wp P Q { a with defers := { target := .collected D, args := #[] } :: a.defers } W) :
    (Code.rangeFunc g ps assign body).wp P Q a w := by
  refine (wpIn_wide (n := 0)).1 (wpIn_rangeFunc fun fn hfn => ?_)
  obtain ⟨rec, hrec⟩ : ∃ rec : LoopState → Option Code → Loop, rec = fun st pe => { state := st, pending := pe, fn, tmps := a.tmps, params := ps, assign, body, defers := w.heap.size } := ⟨_, rfl⟩
  have hrp : ∀ st pe, (rec st pe).params = ps := fun st pe => by rw [hrec]
  have hrs : ∀ st pe, (rec st pe).state = st := fun st pe => by rw [hrec]
  obtain ⟨W1, hW1⟩ : ∃ W1, (w.alloc (.deferred (some []))).alloc (.loop (rec .ready none)) = W1 := ⟨_, rfl⟩
  have hsz : W1.heap.size = w.heap.size + 2 := by rw [← hW1]; simp
  have hb1 : Below w.heap.size w W1 := by rw [← hW1]; exact ((Below.refl _ w).alloc (Nat.le_refl _) _).alloc (by simp) _
  have hl1 : W1.heap[w.heap.size + 1]? = some (.loop (rec .ready none)) := by
    rw [← hW1]; have := World.alloc_heap_new (w.alloc (.deferred (some []))) (.loop (rec .ready none)); rwa [World.size_alloc] at this
  have hd1 : W1.heap[w.heap.size]? = some (.deferred (some [])) := by
    rw [← hW1]; exact (Below.heap_alloc _ _ _ (by simp)).trans (World.alloc_heap_new w _)
  have hClt : ∀ k, C k → k < w.heap.size := fun k hk => by
    obtain ⟨h1, h2⟩ := hC k hk
    rcases Nat.lt_or_ge k w.heap.size with h | h
    · exact h
    · rw [Array.getElem?_eq_none h, Array.getElem?_eq_getElem h1] at h2; cases h2
  refine ⟨w.heap.size + 1, [{ target := .collected w.heap.size, args := #[] }], W1, { target := .fn (.func gf) lb, args := #[.func (.yield (w.heap.size + 1)) #[] #[]] }, W1, gf,
    #[.func (.yield (w.heap.size + 1)) #[] #[]] ++ lb, W1, ?_, ?_, fun f' _ => trivial, ?_, fun h => (by simp [Fence.wide] at h), ?_⟩
  · rw [← hW1, hrec]; exact run_enterLoop_outer _ _ _ _ _
  · simp only [resolve, hg]; simp [go_sem]
  · simp [invoke, go_sem, eg _ _]
  · have hT' : ∀ k, T k → k < W1.heap.size := fun k hk => by have := (hT k hk).1; omega
    refine (hseq (w.heap.size + 1) (fun k => T k ∨ k = w.heap.size + 1)
      (fun pre W => I pre W ∧ Keeps T w W ∧ W.heap[w.heap.size + 1]? = some (.loop (rec .ready none)) ∧ W.heap[w.heap.size]? = some (.deferred (some [])))
      (fun pre W => ∃ c, Ix c pre W ∧ Keeps T w W ∧ W.heap[w.heap.size + 1]? = some (.loop (rec .done (some c))) ∧ W.heap[w.heap.size]? = some (.deferred (some [])))
      W1 (fun k hk => ⟨(hC k hk).1, (hb1.block k (hClt k hk)).trans (hC k hk).2⟩)
      (fun k hk => by
        rcases hk with hk | rfl
        · exact ⟨hT' k hk, (hT k hk).2⟩
        · exact ⟨by omega, fun hk => by have := hClt _ hk; omega⟩)
      (fun s A B hs hb => ⟨hI s A B hs.1 (hb.mono (by omega)), hs.2.1.later (hb.mono (by omega)), (hb.block _ (by omega)).trans hs.2.2.1, (hb.block _ (by omega)).trans hs.2.2.2⟩)
      (fun s A B hs hb => by
        obtain ⟨c, h1, h2, h3, h4⟩ := hs
        exact ⟨c, hIx c s A B h1 (hb.mono (by omega)), h2.later (hb.mono (by omega)), (hb.block _ (by omega)).trans h3, (hb.block _ (by omega)).trans h4⟩)
      ?_ ⟨hI _ _ _ h0 hb1, (Keeps.refl T w).later hb1, hl1, hd1⟩).mono ?_
    · rintro pre x W hpre hKW ⟨hi, hkw, hl, hd⟩
      have hlt : w.heap.size + 1 < W.heap.size := (Array.getElem?_eq_some_iff.1 hl).1
      have hy := run_yield (P := P) (args := encs x) hl (by rw [hrp]; exact hps x)
      refine ⟨fn, _, assign, body, (by rw [hrec] at hy; exact hy), roundIn_of_wpIn trivial (hassign _ x W _ ⟨_, run_beginRound hl (hrs _ _), ?_⟩)⟩
      have hre : ({ rec .ready none with state := .busy } : Loop) = rec .busy none := by rw [hrec]
      rw [hre]
      have hl2 : (W.putObj (w.heap.size + 1) (.loop (rec .busy none))).heap[w.heap.size + 1]? = some (.loop (rec .busy none)) := World.putObj_heap_same hlt
      have hd2 : (W.putObj (w.heap.size + 1) (.loop (rec .busy none))).heap[w.heap.size]? = some (.deferred (some [])) := (World.putObj_heap_other (by omega)).trans hd
      have hk2 : Keeps (fun k => T k ∨ k = w.heap.size + 1) W (W.putObj (w.heap.size + 1) (.loop (rec .busy none))) := (Keeps.refl _ W).putObj (Or.inr rfl) _
      have hbl : ∀ (V : World) (o : Obj), Below w.heap.size V (V.putObj (w.heap.size + 1) o) := fun V o => below_putObj V (by omega) o
      have hnT : ¬ T (w.heap.size + 1) := fun h => by have := (hT _ h).1; omega
      have hnT0 : ¬ T (w.heap.size) := fun h => by have := (hT _ h).1; omega
      refine wpIn_mono (hbody _ pre x _ hpre (hkw.later (hbl _ _)) (hI _ _ _ hi (hbl _ _))) ?_
      have hsz2 : (W.putObj (w.heap.size + 1) (.loop (rec .busy none))).heap.size = W.heap.size := putObj_size _ _ _
      have hkw2 : Keeps T w (W.putObj (w.heap.size + 1) (.loop (rec .busy none))) := hkw.later (hbl _ _)
      generalize W.putObj (w.heap.size + 1) (.loop (rec .busy none)) = W2 at *
      have fin : ∀ (jump : Option Code) (W3 : World), Keeps T W2 W3 →
          ∃ v W4, (Instr.endRound (w.heap.size + 1) jump).run P W3 = .ok v W4 ∧ v = .bool jump.isNone ∧ Keeps (fun k => T k ∨ k = w.heap.size + 1) W W4 ∧ Keeps T w W4 ∧ Below w.heap.size W3 W4 ∧
            W4.heap[w.heap.size + 1]? = some (.loop (rec (if jump.isNone then .ready else .done) jump)) ∧ W4.heap[w.heap.size]? = some (.deferred (some [])) := fun jump W3 hk3 => by
        have hl3 := (hk3.block _ (by omega) hnT).trans hl2
        have hd3 := (hk3.block _ (by omega) hnT0).trans hd2
        have hlt3 := (Array.getElem?_eq_some_iff.1 hl3).1
        have hr := run_endRound (P := P) jump hl3
        have hre3 : ({ rec .busy none with state := if jump.isNone then .ready else .done, pending := jump } : Loop) = rec (if jump.isNone then .ready else .done) jump := by rw [hrec]
        refine ⟨_, _, hr, rfl, ?_, ?_, hbl _ _, ?_, ?_⟩
        · exact (hk2.trans (hk3.wide fun k hk => Or.inl hk)).putObj (Or.inr rfl) _
        · exact (hkw2.trans hk3).later (hbl _ _)
        · rw [World.putObj_heap_same hlt3, hre3]
        · exact (World.putObj_heap_other (by omega)).trans hd3
      rintro e a3 W3 hp
      cases e with
      | normal =>
        obtain ⟨hk3, hi3⟩ := hp
        obtain ⟨v, W4, hr, rfl, h1, h2, h3, h4, h5⟩ := fin none W3 hk3
        exact ⟨_, _, hr, .inl ⟨rfl, h1, hI _ _ _ hi3 h3, h2, h4, h5⟩⟩
      | ret =>
        obtain ⟨hk3, hi3⟩ := hp
        obtain ⟨v, W4, hr, rfl, h1, h2, h3, h4, h5⟩ := fin (some .ret) W3 hk3
        exact ⟨_, _, hr, .inr ⟨rfl, h1, .ret, hIx _ _ _ _ hi3 h3, h2, h4, h5⟩⟩
      | exit id =>
        obtain ⟨hk3, hi3⟩ := hp
        obtain ⟨v, W4, hr, rfl, h1, h2, h3, h4, h5⟩ := fin (some (.exit id)) W3 hk3
        exact ⟨_, _, hr, .inr ⟨rfl, h1, .exit id, hIx _ _ _ _ hi3 h3, h2, h4, h5⟩⟩
      | goto t =>
        obtain ⟨hk3, hi3⟩ := hp
        obtain ⟨v, W4, hr, rfl, h1, h2, h3, h4, h5⟩ := fin (some (.goto t)) W3 hk3
        exact ⟨_, _, hr, .inr ⟨rfl, h1, .goto t, hIx _ _ _ _ hi3 h3, h2, h4, h5⟩⟩
      | panic ch => exact hp.elim
      | outgrown => exact hp.elim
    · have hbl : ∀ (V : World) (o : Obj), Below w.heap.size V (V.putObj (w.heap.size + 1) o) := fun V o => below_putObj V (by omega) o
      rintro e W2 ⟨⟨v, rfl⟩, _, (⟨hi, hkw, hl, hd⟩ | ⟨pre, hpre, c, hi, hkw, hl, hd⟩)⟩
      · exact ⟨none, _, by have := run_endLoop (P := P) hl (by rw [hrs]; simp); rw [hrec] at this; exact this, hdone _ _ (Nat.le_refl _) (hkw.later (hbl _ _)) (hI _ _ _ hi (hbl _ _)) ((World.putObj_heap_other (by omega)).trans hd)⟩
      · exact ⟨some c, _, by have := run_endLoop (P := P) hl (by rw [hrs]; simp); rw [hrec] at this; exact this, (wpIn_wide (n := 0)).2 (hstop _ c pre _ (Nat.le_refl _) (hkw.later (hbl _ _)) hpre (hIx _ _ _ _ hi (hbl _ _)) ((World.putObj_heap_other (by omega)).trans hd))⟩
end

end Go.Proofs.YtklngodlijiccaaDoor
