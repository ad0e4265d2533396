/-
  The contracts of the reference's encoders and of Same, in the form in which the laws meet them.
-/
import Derived.Test.YticgbohkgjheaaaRefEnc
import Derived.Test.YticgbohkgjheaaaVC
namespace Go.Proofs.Yticgbohkgjheaaa
open Go.RowKit
set_option linter.unusedVariables false

theorem refInt_v (n : Int) (w : World) (hn : -9223372036854775808 ≤ n) (hn' : n ≤ 9223372036854775807) :
    Calls Try.prog 14 #[.int .i64 n] w fun e w' => ∃ A' c', e = .returned (.slice A' (enc n).length c') ∧ (enc n).length ≤ c' ∧ Sl w' w'.heap.size A' 1 (enc n).length ((enc n).map bv) ∧ Below w.heap.size w w' := by
  refine (refInt_any n w hn hn').mono ?_
  rintro x w' ⟨v', rfl, h1, h2⟩
  obtain ⟨A', c', rfl, h3, _⟩ := own_form h1
  exact ⟨A', c', rfl, h3, Sl.of_own h1, h2⟩
theorem refInts_v (A : Option Addr) (c : Nat) (l : List Int) (w : World) (hx : Sl w w.heap.size A 1 l.length (l.map iv)) (hr : ∀ n ∈ l, -9223372036854775808 ≤ n ∧ n ≤ 9223372036854775807) (hl : l.length ≤ 10000000) :
    Calls Try.prog 18 #[.slice A l.length c] w fun e w' => ∃ A' c', e = .returned (.slice A' (encI l).length c') ∧ (encI l).length ≤ c' ∧ Sl w' w'.heap.size A' 1 (encI l).length ((encI l).map bv) ∧ Below w.heap.size w w' := by
  refine (refInts_any A _ c l w hx (Nat.le_refl _) hr hl).mono ?_
  rintro x w' ⟨v', rfl, h1, h2⟩
  obtain ⟨A', c', rfl, h3, _⟩ := own_form h1
  exact ⟨A', c', rfl, h3, Sl.of_own h1, h2⟩
theorem refDigs_v (A : Option Addr) (c : Nat) (l : List (List UInt8)) (w : World) (hx : Sl w w.heap.size A 16 l.length (l.flatten.map bv)) (hr : ∀ d ∈ l, d.length = 16) (hl : l.length ≤ 1000000) :
    Calls Try.prog 20 #[.slice A l.length c] w fun e w' => ∃ A' c', e = .returned (.slice A' (encD l).length c') ∧ (encD l).length ≤ c' ∧ Sl w' w'.heap.size A' 1 (encD l).length ((encD l).map bv) ∧ Below w.heap.size w w' := by
  refine (refDigests_any A _ c l w hx hr (Nat.le_refl _) hl).mono ?_
  rintro x w' ⟨v', rfl, h1, h2⟩
  obtain ⟨A', c', rfl, h3, _⟩ := own_form h1
  exact ⟨A', c', rfl, h3, Sl.of_own h1, h2⟩
theorem refBytes_v (s : ByteArray) (w : World) (hs : s.size ≤ 100000000) :
    Calls Try.prog 16 #[.string s] w fun e w' => ∃ A' c', e = .returned (.slice A' (encB s.data.toList).length c') ∧ (encB s.data.toList).length ≤ c' ∧ Sl w' w'.heap.size A' 1 (encB s.data.toList).length ((encB s.data.toList).map bv) ∧ Below w.heap.size w w' := by
  refine (refBytes_any s w hs).mono ?_
  rintro x w' ⟨v', rfl, h1, h2⟩
  obtain ⟨A', c', rfl, h3, _⟩ := own_form h1
  exact ⟨A', c', rfl, h3, Sl.of_own h1, h2⟩
theorem same_v (A A' : Option Addr) (c c' : Nat) (xs : List UInt8) (w : World) (hx : Sl w w.heap.size A 1 xs.length (xs.map bv)) (hy : Sl w w.heap.size A' 1 xs.length (xs.map bv)) (hl : xs.length ≤ 1000000000) :
    Calls Try.prog 12 #[.slice A xs.length c, .slice A' xs.length c'] w fun e w' => e = .returned (.bool true) ∧ ∃ n, w' = w.drewN n := by
  refine (same_any A A' _ _ c c' xs xs w hx hy hl hl).mono ?_
  rintro x w' ⟨rfl, h⟩
  exact ⟨ret_b (decide_eq_true rfl), h⟩

end Go.Proofs.Yticgbohkgjheaaa
