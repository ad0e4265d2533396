/-
  What a call leaves as it was: all below a bound, and every block that is not of certain types. No program stands behind this text.
-/
import Derived.Test.YtefalanfkihcdaaDoorGrow
namespace Go.Proofs.YtefalanfkihcdaaDoor
open Go.RowKit
set_option linter.unusedVariables false

structure KeepT (B : Nat) (ts : List TypeId) (w w' : World) : Prop where
  os : w'.os = w.os
  tape : w'.tape = w.tape
  output : w'.output = w.output
  size : w.heap.size ≤ w'.heap.size
  low : ∀ (k : Nat), k < B → w'.heap[k]? = w.heap[k]?
  typ : ∀ (k : Nat) cs t f, w.heap[k]? = some (Obj.cells cs t f) → t ∉ ts → w'.heap[k]? = w.heap[k]?
section
variable {B B' : Nat} {ts ts' : List TypeId} {w0 w w' : World}
theorem KeepT.refl (B : Nat) (ts : List TypeId) (w : World) : KeepT B ts w w := ⟨rfl, rfl, rfl, Nat.le_refl _, fun _ _ => rfl, fun _ _ _ _ _ _ => rfl⟩
theorem KeepT.of_below (h : Below w.heap.size w w') (hB : B ≤ w.heap.size) : KeepT B ts w w' :=
  ⟨h.os, h.tape, h.output, h.size, fun k hk => h.block k (by omega), fun k _ _ _ hk _ => h.block k (Array.getElem?_eq_some_iff.1 hk).1⟩
theorem KeepT.trans (h1 : KeepT B ts w0 w) (h2 : KeepT B ts w w') : KeepT B ts w0 w' :=
  ⟨h2.os.trans h1.os, h2.tape.trans h1.tape, h2.output.trans h1.output, Nat.le_trans h1.size h2.size, fun k hk => (h2.low k hk).trans (h1.low k hk),
    fun k cs t f hk ht => (h2.typ k cs t f ((h1.typ k cs t f hk ht).trans hk) ht).trans (h1.typ k cs t f hk ht)⟩
theorem KeepT.below (h : KeepT B ts w w') : Below B w w' := ⟨h.os, h.tape, h.output, h.size, fun k hk => h.low k hk⟩
/-- A block that came up since has turned. -/
theorem KeepT.later (h : KeepT B ts w0 w) {g : Nat} (ht : Turned g w w') (hg : w0.heap.size ≤ g) (hB : B ≤ w0.heap.size) : KeepT B ts w0 w' :=
  ⟨ht.os.trans h.os, ht.tape.trans h.tape, ht.output.trans h.output, by rw [ht.size]; exact h.size, fun k hk => (ht.block k (by omega)).trans (h.low k hk),
    fun k cs t f hk hh => (ht.block k (by have := (Array.getElem?_eq_some_iff.1 hk).1; omega)).trans (h.typ k cs t f hk hh)⟩
/-- What came up since w0 may turn. -/
theorem KeepT.since (h : KeepT B ts w0 w) (hb : Below w0.heap.size w w') (hB : B ≤ w0.heap.size) : KeepT B ts w0 w' :=
  ⟨hb.os.trans h.os, hb.tape.trans h.tape, hb.output.trans h.output, Nat.le_trans h.size hb.size, fun k hk => (hb.block k (by omega)).trans (h.low k hk),
    fun k cs t f hk hh => (hb.block k (Array.getElem?_eq_some_iff.1 hk).1).trans (h.typ k cs t f hk hh)⟩
theorem KeepT.of_turned {g : Nat} {t : TypeId} {cs : List Value} (hb : Blk w g t cs) (ht : t ∈ ts) (hg : B ≤ g) (hw : Turned g w w') : KeepT B ts w w' :=
  ⟨hw.os, hw.tape, hw.output, by rw [hw.size]; exact Nat.le_refl _, fun k hk => hw.block k (by omega),
    fun k cs' t' f hk hh => hw.block k (fun hkg => by
      subst hkg
      unfold Blk at hb
      rw [hb] at hk
      injection hk with hk
      injection hk with _ hk
      exact hh (hk ▸ ht))⟩
theorem KeepT.wide (h : KeepT B ts w w') (hB : B' ≤ B) (hts : ∀ t ∈ ts, t ∈ ts') : KeepT B' ts' w w' :=
  ⟨h.os, h.tape, h.output, h.size, fun k hk => h.low k (by omega), fun k cs t f hk hh => h.typ k cs t f hk (fun hm => hh (hts t hm))⟩
theorem Blk.keepT {g : Nat} {t : TypeId} {cs : List Value} (h : Blk w g t cs) (hk : KeepT B ts w w') (ht : t ∉ ts) : Blk w' g t cs := (hk.typ g _ t _ h ht).trans h
theorem own_keepT {base : Nat} {e : TypeId} {size n : Nat} {v : Value} {xs : List Value} (h : w.ownsRow base e size v n xs) (hk : KeepT B ts w w') (ht : e ∉ ts) : w'.ownsRow base e size v n xs := by
  refine ⟨h.1, ?_⟩
  rcases h.2 with h0 | ⟨k, cap, cur, rfl, hg, hh, r⟩
  · exact .inl h0
  · exact .inr ⟨k, cap, cur, rfl, hg, (hk.typ k _ e _ hh ht).trans hh, r⟩
theorem KeepT.grown {base : Nat} {e : TypeId} {size n : Nat} {v : Value} {xs : List Value} (h : w.ownsRow base e size v n xs) (hg : w.grownBy w' v.ownBlock) (he : e ∈ ts) (hB : B ≤ base) (hs : B ≤ w.heap.size) : KeepT B ts w w' := by
  refine ⟨hg.os, hg.tape, hg.output, hg.size, fun k hk => ?_, fun k cs t f hk hh => ?_⟩
  · exact hg.block k (by omega) fun hc => by have := (h.lt k hc.symm).1; omega
  · refine hg.block k (Array.getElem?_eq_some_iff.1 hk).1 fun hc => ?_
    rcases h.2 with ⟨rfl, _⟩ | ⟨j, cap, cur, rfl, _, hj, _⟩
    · simp [Value.ownBlock] at hc
    · simp only [Value.ownBlock, Option.some.injEq] at hc
      subst hc
      rw [hj] at hk
      injection hk with hk
      injection hk with _ hk
      exact hh (hk ▸ he)
end

end Go.Proofs.YtefalanfkihcdaaDoor
