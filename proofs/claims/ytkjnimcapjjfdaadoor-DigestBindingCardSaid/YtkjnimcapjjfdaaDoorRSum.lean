/-
  The hash of a message, walked: the reference's Sum.
-/
import Derived.Test.YtkjnimcapjjfdaaDoorSum
import Derived.Test.YtkjnimcapjjfdaaDoorPad
import Derived.Test.YtkjnimcapjjfdaaDoorRWords
import Derived.Test.YtkjnimcapjjfdaaDoorQuiet
namespace Go.Proofs.YtkjnimcapjjfdaaDoor
open Go.RowKit
set_option linter.unusedVariables false

theorem binOp_xor_all (t : TypeId) (x : UInt32) : binOp .xor t (wv x) (.int .u32 4294967295) = pure (wv (~~~ x)) := by
  have h := binOp_xor_wv t x 4294967295
  have h3 : x ^^^ 4294967295 = ~~~ x := by
    apply UInt32.toBitVec_inj.1
    rw [UInt32.toBitVec_not, UInt32.toBitVec_xor]
    exact BitVec.xor_allOnes
  rw [h3] at h
  exact h
attribute [local go_sem] binOp_add_wv binOp_and_wv binOp_or_wv binOp_xor_wv binOp_shr_wv binOp_shl_wv unary_xor_wv run_convert_wv run_store_wv binOp_xor_all

theorem own_open {w : World} {base n : Nat} {e : TypeId} {size : Nat} {v : Value} {xs : List Value} (h : w.ownsRow base e size v n xs) (hn : 0 < n) :
    ∃ g cap, v = .slice (some ⟨g, 0, none⟩) n cap ∧ base ≤ g ∧ g < w.heap.size ∧ n ≤ cap ∧ ∀ j u, xs[j]? = some u → w.cell? ⟨g, j, none⟩ = some u := by
  rcases h.2 with ⟨_, h0⟩ | ⟨g, cap, cur, hv, hb, hg, h1, _⟩
  · omega
  · refine ⟨g, cap, hv, hb, (Array.getElem?_eq_some_iff.1 hg).1, h1, fun j u hu => ?_⟩
    have := h.cells (g := g) (by rw [hv]; rfl) j u hu
    rwa [addr_add, Nat.zero_add] at this
/-- Cells of a block that is not the call's own to turn. -/
def Row (w : World) (g : Nat) (xs : List Value) : Prop := g < w.heap.size ∧ ∀ j u, xs[j]? = some u → w.cell? ⟨g, j, none⟩ = some u
theorem Row.keep {w w' : World} {g : Nat} {xs : List Value} (h : Row w g xs) (hb : Below w.heap.size w w') : Row w' g xs :=
  ⟨Nat.lt_of_lt_of_le h.1 hb.size, fun j u hu => (hb.cell (p := ⟨g, j, none⟩) h.1).trans (h.2 j u hu)⟩
theorem Row.other {w : World} {g k : Nat} {xs : List Value} (h : Row w g xs) (hk : g ≠ k) (cs : Array Value) : Row (w.setRow k cs) g xs :=
  ⟨by simpa using h.1, fun j u hu => (cell_setRow_other w k cs ⟨g, j, none⟩ hk).trans (h.2 j u hu)⟩
theorem Row.sl {w : World} {g : Nat} {E : List UInt8} (h : Row w g (E.map bv)) : Sl w w.heap.size (some ⟨g, 0, none⟩) 1 E.length (E.map bv) :=
  ⟨by simp, fun _ => ⟨g, 0, rfl, h.1, fun j u hu => by rw [Nat.zero_add]; exact h.2 j u hu⟩⟩
theorem Row.store {w : World} {g k i : Nat} {xs : List Value} {u : Value} (h : Row w g xs) (hk : g ≠ k) : Row (w.setCell ⟨k, i, none⟩ u) g xs :=
  ⟨by simpa using h.1, fun j v hv => by
    have := h.2 j v hv
    unfold World.cell? at this ⊢
    rw [heap_setCell_other w ⟨k, i, none⟩ g u hk]; exact this⟩
theorem Row.turned {w w' : World} {g k : Nat} {xs : List Value} (h : Row w g xs) (ht : Turned k w w') (hk : g ≠ k) : Row w' g xs :=
  ⟨by rw [ht.size]; exact h.1, fun j u hu => (ht.cell hk).trans (h.2 j u hu)⟩
theorem Tab.turned {w w' : World} {g k : Nat} (h : Tab w g) (ht : Turned k w w') (hk : g ≠ k) : Tab w' g :=
  ⟨by rw [ht.size]; exact h.1, fun j hj => (ht.cell hk).trans (h.2 j hj)⟩

/-- The words of a state while another one is added to them. -/
def mixL (s r : St) (i : Nat) : List UInt32 := (s.add r).list.take i ++ s.list.drop i
theorem eight {i : Nat} (h : i < 8) : i = 0 ∨ i = 1 ∨ i = 2 ∨ i = 3 ∨ i = 4 ∨ i = 5 ∨ i = 6 ∨ i = 7 := by omega
theorem mixL_at (s r : St) (i : Nat) (h : i < 8) : (mixL s r i)[i]? = some (s.list.getD i 0) := by
  rcases eight h with rfl | rfl | rfl | rfl | rfl | rfl | rfl | rfl <;> rfl
theorem list_at (r : St) (i : Nat) (h : i < 8) : r.list[i]? = some (r.list.getD i 0) := by
  rcases eight h with rfl | rfl | rfl | rfl | rfl | rfl | rfl | rfl <;> rfl
theorem mixL_step (s r : St) (i : Nat) (h : i < 8) : (mixL s r i).set i (s.list.getD i 0 + r.list.getD i 0) = mixL s r (i + 1) := by
  rcases eight h with rfl | rfl | rfl | rfl | rfl | rfl | rfl | rfl <;> rfl
theorem shr_zero (v : UInt32) : shr v 0 = v := by unfold shr; simp
theorem outB_at (s : St) (i : Nat) (h : i < 32) : (outB s)[i]? = some (shr (s.list.getD (i / 4) 0) (24 - 8 * (i % 4))).toUInt8 := by
  have h' : ∃ a b, i = 4 * a + b ∧ a < 8 ∧ b < 4 := ⟨i / 4, i % 4, by omega, by omega, by omega⟩
  obtain ⟨a, b, rfl, ha, hb⟩ := h'
  rw [show (4 * a + b) / 4 = a by omega, show (4 * a + b) % 4 = b by omega]
  have hb' : b = 0 ∨ b = 1 ∨ b = 2 ∨ b = 3 := by omega
  rcases eight ha with rfl | rfl | rfl | rfl | rfl | rfl | rfl | rfl <;> rcases hb' with rfl | rfl | rfl | rfl <;>
    first | rfl | (simp only [Nat.mul_zero, Nat.reduceMul, Nat.reduceSub, shr_zero]; rfl)
/-- The hash while the reference writes it out. -/
def fillR (s : St) (i : Nat) : List UInt8 := (outB s).take i ++ List.replicate (32 - i) 0
theorem fillR_at (s : St) (i : Nat) (h : i < 32) : (fillR s i)[i]? = some 0 := by
  unfold fillR
  rw [List.getElem?_append_right (by rw [List.length_take]; omega), List.length_take, outB_len, List.getElem?_replicate, if_pos (by omega)]
theorem fillR_step (s : St) (i : Nat) (h : i < 32) (v : UInt32) (hv : v = s.list.getD (i / 4) 0) : (fillR s i).set i (shr v (24 - 8 * (i % 4))).toUInt8 = fillR s (i + 1) := by
  have hl : ((outB s).take i).length = i := by rw [List.length_take, outB_len]; omega
  have hat := outB_at s i h
  rw [← hv] at hat
  unfold fillR
  rw [List.set_append_right _ _ (by omega), hl, Nat.sub_self, show 32 - i = (32 - (i + 1)) + 1 by omega, List.replicate_succ, List.set_cons_zero, List.take_add_one, hat]
  simp
theorem fillR_end (s : St) : fillR s 32 = outB s := by
  unfold fillR
  rw [List.take_of_length_le (by rw [outB_len]; exact Nat.le_refl _)]
  simp

end Go.Proofs.YtkjnimcapjjfdaaDoor
