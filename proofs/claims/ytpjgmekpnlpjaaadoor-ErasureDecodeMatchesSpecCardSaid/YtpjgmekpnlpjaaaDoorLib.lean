/-
  Words of our own for memory, and small facts about them: a slice that reads as a list, a block that is known whole, an address. No program stands behind this text.
  Arrays of bytes, compared item by item. No program stands behind this text.
-/
import Derived.WalkKit
import Derived.WalkSpells
import Derived.WalkLawsBesides
import Derived.Deep.MidRow
import Derived.Lib.BufferRead
import Derived.Test.YtpjgmekpnlpjaaaDoorRows
import Derived.ChangeKeysEq
namespace Go.Proofs.YtpjgmekpnlpjaaaDoor
open Go.RowKit
set_option linter.unusedVariables false

theorem hideIt {p : Prop} (h : p) : Hid p := h

/-- A byte as a cell. -/
abbrev bv (b : UInt8) : Value := .int .u8 (b.toNat : Int)
abbrev iv (n : Int) : Value := .int .i64 n

/-- The address of a slice and its cells: 'n' elements of 'size' cells each, below block B. -/
def Sl (w : World) (B : Nat) (A : Option Addr) (size n : Nat) (xs : List Value) : Prop :=
  xs.length = n * size ∧ (0 < xs.length → ∃ b off, A = some ⟨b, off, none⟩ ∧ b < B ∧ ∀ j u, xs[j]? = some u → w.cell? ⟨b, off + j, none⟩ = some u)

theorem map_add0 (A : Option Addr) : A.map (fun a => a.add 0) = A := by
  have : (fun a : Addr => a.add 0) = id := by funext a; simp [Addr.add]
  rw [this]; simp
theorem addr_add (b o k : Nat) : (⟨b, o, none⟩ : Addr).add k = ⟨b, o + k, none⟩ := by
  unfold Addr.add; split <;> simp_all

section
variable {w w' : World} {B B' size n : Nat} {A : Option Addr} {xs : List Value}
theorem Sl.nil (w : World) (B : Nat) (A : Option Addr) (size : Nat) : Sl w B A size 0 [] := ⟨by simp, fun h => absurd h (by simp)⟩
theorem Sl.keep (h : Sl w B A size n xs) (hk : ∀ b o, b < B → w'.cell? ⟨b, o, none⟩ = w.cell? ⟨b, o, none⟩) : Sl w' B A size n xs := by
  refine ⟨h.1, fun hp => ?_⟩
  obtain ⟨b, off, e, hb, hc⟩ := h.2 hp
  exact ⟨b, off, e, hb, fun j u hu => (hk _ _ hb).trans (hc j u hu)⟩
theorem Sl.wide (h : Sl w B A size n xs) (hB : B ≤ B') : Sl w B' A size n xs := by
  refine ⟨h.1, fun hp => ?_⟩
  obtain ⟨b, off, e, hb, hc⟩ := h.2 hp
  exact ⟨b, off, e, by omega, hc⟩
theorem Sl.below (h : Sl w B A size n xs) (hb : Below B w w') : Sl w' B A size n xs := h.keep fun _ _ hp => hb.cell (p := ⟨_, _, none⟩) hp
theorem Sl.drop (h : Sl w B A size n xs) {k cap : Nat} (hk : k ≤ n) (hc : n ≤ cap) :
    Sl w B (if cap = k then A else A.map (·.add (k * size))) size (n - k) (xs.drop (k * size)) := by
  refine ⟨by rw [List.length_drop, h.1, Nat.sub_mul], fun hp => ?_⟩
  rw [List.length_drop] at hp
  obtain ⟨b, off, rfl, hb, hcell⟩ := h.2 (by omega)
  have hne : ¬ cap = k := by
    intro e
    have h1 := h.1
    have : n = k := by omega
    subst this
    omega
  rw [if_neg hne]
  refine ⟨b, off + k * size, by simp [addr_add], hb, fun j u hu => ?_⟩
  rw [Nat.add_assoc]
  exact hcell _ u (by rw [← hu, List.getElem?_drop])
theorem Sl.take (h : Sl w B A size n xs) {k : Nat} (hk : k ≤ n) : Sl w B A size k (xs.take (k * size)) := by
  have hle : k * size ≤ n * size := Nat.mul_le_mul_right _ hk
  refine ⟨by rw [List.length_take, h.1]; omega, fun hp => ?_⟩
  rw [List.length_take] at hp
  obtain ⟨b, off, rfl, hb, hcell⟩ := h.2 (by omega)
  refine ⟨b, off, rfl, hb, fun j u hu => hcell j u ?_⟩
  rw [List.getElem?_take] at hu
  split at hu
  · exact hu
  · cases hu
theorem Sl.of_own {base : Nat} {e : TypeId} {c : Nat} (h : w.ownsRow base e size (.slice A n c) n xs) : Sl w w.heap.size A size n xs := by
  refine ⟨h.1, fun hp => ?_⟩
  rcases h.2 with ⟨_, h0⟩ | ⟨g, cap, cur, hv, hb, hg, _⟩
  · have := h.1; subst h0; omega
  · injection hv with hv1 hv2 hv3
    subst hv1
    refine ⟨g, 0, rfl, (Array.getElem?_eq_some_iff.1 hg).1, fun j u hu => ?_⟩
    have := h.cells (g := g) rfl j u hu
    rwa [addr_add] at this
end

theorem Sl.at_ {w : World} {B n : Nat} {A : Option Addr} {xs : List Value} (h : Sl w B A 1 n xs) {k : Nat} (hk : k < n) :
    ∃ b off u, A = some ⟨b, off, none⟩ ∧ b < B ∧ xs[k]? = some u ∧ w.cell? ⟨b, off + k, none⟩ = some u := by
  have hl : k < xs.length := by have := h.1; omega
  obtain ⟨b, off, e, hb, hc⟩ := h.2 (by omega)
  exact ⟨b, off, xs[k], e, hb, List.getElem?_eq_getElem hl, hc k _ (List.getElem?_eq_getElem hl)⟩
theorem Sl.byte {w : World} {B : Nat} {A : Option Addr} {l : List UInt8} (h : Sl w B A 1 l.length (l.map bv)) {k : Nat} (hk : k < l.length) :
    ∃ b off, A = some ⟨b, off, none⟩ ∧ b < B ∧ w.cell? ⟨b, off + k, none⟩ = some (bv l[k]) := by
  obtain ⟨b, off, u, e, hb, hu, hc⟩ := h.at_ hk
  rw [List.getElem?_map, List.getElem?_eq_getElem hk] at hu
  simp only [Option.map_some, Option.some.injEq] at hu
  exact ⟨b, off, e, hb, hu ▸ hc⟩
theorem Sl.num {w : World} {B : Nat} {A : Option Addr} {l : List Int} (h : Sl w B A 1 l.length (l.map iv)) {k : Nat} (hk : k < l.length) :
    ∃ b off, A = some ⟨b, off, none⟩ ∧ b < B ∧ w.cell? ⟨b, off + k, none⟩ = some (iv l[k]) := by
  obtain ⟨b, off, u, e, hb, hu, hc⟩ := h.at_ hk
  rw [List.getElem?_map, List.getElem?_eq_getElem hk] at hu
  simp only [Option.map_some, Option.some.injEq] at hu
  exact ⟨b, off, e, hb, hu ▸ hc⟩
theorem take_snoc {α : Type} (l : List α) (k : Nat) (h : k < l.length) : l.take (k + 1) = l.take k ++ [l[k]] := by
  rw [List.take_add_one, List.getElem?_eq_getElem h]; rfl

theorem ret_b {a b : Bool} (h : a = b) : Ending.returned (.bool a) = Ending.returned (.bool b) := by rw [h]
theorem ret_i {k : IntKind} {a b : Int} (h : a = b) : Ending.returned (.int k a) = Ending.returned (.int k b) := by rw [h]

theorem own_form {w : World} {base : Nat} {e : TypeId} {size n : Nat} {v : Value} {xs : List Value} (h : w.ownsRow base e size v n xs) :
    ∃ A c, v = .slice A n c ∧ n ≤ c ∧ c ≤ maxLen := by
  rcases h.2 with ⟨rfl, rfl⟩ | ⟨g, cap, cur, rfl, _, _, h1, h2, _⟩
  · exact ⟨none, 0, rfl, Nat.le_refl _, by decide⟩
  · exact ⟨_, _, rfl, h1, h2⟩

/-- What a call owns stays owned where nothing that was there turns. -/
theorem own_kept {w w' : World} {base : Nat} {e : TypeId} {size n : Nat} {v : Value} {xs : List Value} (h : w.ownsRow base e size v n xs) (hb : Below w.heap.size w w') : w'.ownsRow base e size v n xs := by
  refine ⟨h.1, ?_⟩
  rcases h.2 with h0 | ⟨g, cap, cur, hv, hg, hh, r⟩
  · exact .inl h0
  · exact .inr ⟨g, cap, cur, hv, hg, by rw [hb.block g (Array.getElem?_eq_some_iff.1 hh).1]; exact hh, r⟩
theorem below_grown {B : Nat} {w0 w w' : World} {base : Nat} {e : TypeId} {size n : Nat} {v : Value} {xs : List Value} (h : Below B w0 w) (hown : w.ownsRow base e size v n xs) (hB : B ≤ base)
    (hs : B ≤ w.heap.size) (hg : w.grownBy w' v.ownBlock) : Below B w0 w' :=
  h.grown hg hs fun k hk => Nat.le_trans hB (hown.lt k hk).1
theorem below_setCells {B : Nat} {w0 : World} {b : Nat} (hB : B ≤ b) : ∀ (vs : List Value) (o : Nat) (w : World), Below B w0 w → Below B w0 (w.setCells b o vs)
  | [], _, _, h => h
  | v :: r, o, w, h => below_setCells hB r (o + 1) _ (h.setCell (p := ⟨b, o, none⟩) hB v)
theorem bv_one (l : List UInt8) (u : Value) (h : u ∈ l.map bv) : u.oneCell' = true := by
  obtain ⟨b, _, rfl⟩ := List.mem_map.1 h
  rfl

/-- A block that is known whole. -/
def Blk (w : World) (g : Nat) (t : TypeId) (cs : List Value) : Prop := w.heap[g]? = some (.cells cs.toArray t (0, 0))
section
variable {w w' : World} {g : Nat} {t : TypeId} {cs : List Value}
theorem Blk.lt (h : Blk w g t cs) : g < w.heap.size := (Array.getElem?_eq_some_iff.1 h).1
theorem Blk.cell (h : Blk w g t cs) (i : Nat) : w.cell? ⟨g, i, none⟩ = cs[i]? := by
  unfold Blk at h
  simp [World.cell?, h]
theorem Blk.free (h : Blk w g t cs) (i : Nat) : w.frozen? ⟨g, i, none⟩ = false := by
  unfold Blk at h
  simp [World.frozen?, h]
theorem Blk.new (w : World) (t : TypeId) (cs : List Value) : Blk (w.alloc (.cells cs.toArray t)) w.heap.size t cs := heap_alloc_new w _
theorem Blk.store (h : Blk w g t cs) (i : Nat) (u : Value) : Blk (w.setCell ⟨g, i, none⟩ u) g t (cs.set i u) := by
  unfold Blk at h ⊢
  simp [World.setCell, Array.getElem?_modify, h]
theorem Blk.kept {B : Nat} (h : Blk w g t cs) (hb : Below B w w') (hg : g < B) : Blk w' g t cs := (hb.block g hg).trans h
theorem Blk.alloc (h : Blk w g t cs) (o : Obj) : Blk (w.alloc o) g t cs := (Below.heap_alloc w o g h.lt).trans h
end

/-- A slice that is cut: the value, under one name for its address, and what it reads. -/
theorem cut_from {P : Program} {T e : TypeId} {size : Nat} (hT : P.underlying T = some (.slice e)) (hs : ∀ W, (sizeOf e).run P W = .ok size W) (A : Option Addr) {n cap k : Nat} (hk : k ≤ n) (hn : n ≤ cap) :
    ∃ A', (∀ W, (Instr.sliceAt T (.slice A n cap) (some (.int .i64 (k : Int))) none none).run P W = .ok (.slice A' (n - k) (cap - k)) W) ∧
      ∀ w B xs, Sl w B A size n xs → Sl w B A' size (n - k) (xs.drop (k * size)) := by
  have hel : P.elem T = e := by simp [Program.elem, hT]
  refine ⟨if cap = k then A else A.map (·.add (k * size)), fun W => ?_, fun w B xs h => h.drop hk hn⟩
  rw [run_sliceAt_slice W T _ _ _ _ (by rw [hel]; exact hT), run_slice_l W T A n cap (by rw [hel]; exact hT) .i64 k (by omega) (by omega), hel, hs]
  simp only [Result.andThen, sliced, Int.toNat_natCast]
theorem cut_both {P : Program} {T e : TypeId} {size : Nat} (hT : P.underlying T = some (.slice e)) (hs : ∀ W, (sizeOf e).run P W = .ok size W) (A : Option Addr) {n cap k h : Nat} (hk : k ≤ h) (hn : h ≤ n) (hc : n ≤ cap) :
    ∃ A', (∀ W (x y : Int), x = (k : Int) → y = (h : Int) → (Instr.sliceAt T (.slice A n cap) (some (.int .i64 x)) (some (.int .i64 y)) none).run P W = .ok (.slice A' (h - k) (cap - k)) W) ∧
      ∀ w B xs, Sl w B A size n xs → Sl w B A' size (h - k) ((xs.drop (k * size)).take ((h - k) * size)) := by
  have hel : P.elem T = e := by simp [Program.elem, hT]
  refine ⟨if cap = k then A else A.map (·.add (k * size)), fun W x y hx hy => ?_, fun w B xs hq => (hq.drop (by omega) hc).take (by omega)⟩
  subst hx hy
  rw [run_sliceAt_slice W T _ _ _ _ (by rw [hel]; exact hT), run_slice_lh W T A n cap (by rw [hel]; exact hT) .i64 .i64 k h (by omega) (by omega) (by omega), hel, hs]
  simp only [Result.andThen, sliced, Int.toNat_natCast]

/-- A slice of bytes made into a string. -/
theorem push_all : ∀ (l : List UInt8) (s : ByteArray), (l.map (fun b : UInt8 => (b.toNat : Int))).foldl (fun r n => r.push (UInt8.ofNat n.toNat)) s = ⟨s.data ++ l.toArray⟩
  | [], s => by simp
  | b :: r, s => by
    rw [List.map_cons, List.foldl_cons, push_all r]
    apply ByteArray.ext
    simp [ByteArray.push]
theorem conv_bytes {P : Program} {T S e : TypeId} (hT : P.underlying T = some (.slice e)) (he : P.underlying e = some (.int .u8)) (hS : P.underlying S = some .string) {w : World} {B c : Nat} {A : Option Addr} {l : List UInt8}
    (h : Sl w B A 1 l.length (l.map bv)) : (convert T S (.slice A l.length c)).run P w = .ok (.string ⟨l.toArray⟩) w := by
  have key : ∀ a : Addr, (∀ j v, (l.map bv)[j]? = some v → w.cell? (a.add j) = some v) → (convert T S (.slice (some a) l.length c)).run P w = .ok (.string ⟨l.toArray⟩) w := by
    intro a hc
    have hl := run_loadCells_list (P := P) w a (l.map bv) hc
    rw [List.length_map] at hl
    have hm : l.map bv = (l.map (fun b : UInt8 => (b.toNat : Int))).map (Value.int .u8) := by rw [List.map_map]; rfl
    rw [hm] at hl
    rw [run_convert_bytes_string w T S e _ _ c hT he hS, run_bytesToString w a l.length c _ hl, push_all]
    have e0 : ByteArray.empty.data ++ l.toArray = l.toArray := by
      show #[] ++ l.toArray = l.toArray
      simp
    rw [e0]
  rcases Nat.eq_zero_or_pos l.length with h0 | h0
  · obtain rfl : l = [] := List.length_eq_zero_iff.1 h0
    cases A with
    | none => exact Lib.run_convert_nil_bytes w T S e c hT he hS
    | some a => exact key a (by simp)
  · obtain ⟨b, off, rfl, _, hc⟩ := h.2 (by simpa using h0)
    exact key _ fun j v hv => by rw [addr_add]; exact hc j v hv

theorem eqItems_bytes {P : Program} {e : TypeId} (he : P.underlying e = some (.int .u8)) (hs : ∀ w, (isAgg e).run P w = .ok false w) (dep : Nat) (a b : List UInt8) (w : World) :
    ∀ is : List Nat, (∀ i ∈ is, i < a.length ∧ i < b.length) →
      (Op.eqItems (dep + 1) e 1 (a.map bv).toArray (b.map bv).toArray is).run P w = .ok (is.all fun i => a[i]? == b[i]?) w := by
  intro is
  induction is with
  | nil => intro _; simp [Op.eqItems]
  | cons i is ih =>
    intro h
    have hi := h i (by simp)
    have ih' := ih fun j hj => h j (by simp [hj])
    have p1 : (part e (a.map bv).toArray (i * 1)).run P w = .ok (bv a[i]) w := by
      simp [part, Sem.run_bind, hs, hi.1]
    have p2 : (part e (b.map bv).toArray (i * 1)).run P w = .ok (bv b[i]) w := by
      simp [part, Sem.run_bind, hs, hi.2]
    have p3 : (Op.equalIn (dep + 1) e (bv a[i]) (bv b[i])).run P w = .ok ((a[i].toNat : Int) == (b[i].toNat : Int)) w := run_equalIn_int w dep e .u8 .u8 _ _ he
    simp only [Op.eqItems, Sem.run_bind, p1, p2, p3, Result.andThen_ok, List.all_cons]
    have e1 : a[i]? = some a[i] := List.getElem?_eq_getElem hi.1
    have e2 : b[i]? = some b[i] := List.getElem?_eq_getElem hi.2
    rw [e1, e2]
    have e3 : ((a[i].toNat : Int) == (b[i].toNat : Int)) = (some a[i] == some b[i]) := by
      rw [Bool.eq_iff_iff]
      simp only [beq_iff_eq, Option.some.injEq]
      exact ⟨fun h => UInt8.toNat_inj.1 (by omega), fun h => by rw [h]⟩
    rw [e3]
    cases hq : (some a[i] == some b[i])
    · simp
    · simpa using ih'

end Go.Proofs.YtpjgmekpnlpjaaaDoor
