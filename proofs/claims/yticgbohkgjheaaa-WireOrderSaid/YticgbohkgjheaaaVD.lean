/-
  The contracts of the reference's decoders and of SameInts, SameDigests, in the form in which the laws meet them.
-/
import Derived.Test.YticgbohkgjheaaaRefDecD
namespace Go.Proofs.Yticgbohkgjheaaa
open Go.RowKit
set_option linter.unusedVariables false

theorem refGetBytes_v (A : Option Addr) (cap : Nat) (l : List UInt8) (w : World) (hx : Sl w w.heap.size A 1 l.length (l.map bv)) (hlc : l.length ≤ cap) (hc : cap ≤ maxLen) (hl : l.length ≤ 1000000000) (s : List UInt8) (u e : Nat)
    (hd : decB l = (s, u, e)) :
    Calls Try.prog 24 #[.slice A l.length cap] w fun x w' => x = .returned (.tuple #[.string ⟨s.toArray⟩, .int .i64 (u : Int), .int .i64 (e : Int)]) ∧ Below w.heap.size w w' := by
  refine (refGetBytes_any A cap l w hx hlc hc hl).mono ?_
  rintro x w' ⟨rfl, hb⟩
  rw [hd]
  exact ⟨rfl, hb⟩
theorem refGetInts_v (A : Option Addr) (cap : Nat) (l : List UInt8) (w : World) (hx : Sl w w.heap.size A 1 l.length (l.map bv)) (hlc : l.length ≤ cap) (hc : cap ≤ maxLen) (hl : l.length ≤ 1000000000) (ns : List Int) (u e : Nat)
    (hd : decI l = (ns, u, e)) :
    Calls Try.prog 26 #[.slice A l.length cap] w fun x w' => ∃ A' c', x = .returned (.tuple #[.slice A' ns.length c', .int .i64 (u : Int), .int .i64 (e : Int)]) ∧ Sl w' w'.heap.size A' 1 ns.length (ns.map iv) ∧ Below w.heap.size w w' := by
  refine (refGetInts_any A cap l w hx hlc hc hl).mono ?_
  rintro x w' ⟨v', rfl, h1, h2⟩
  rw [hd] at h1 ⊢
  obtain ⟨A', c', rfl, _, _⟩ := own_form h1
  exact ⟨A', c', rfl, Sl.of_own h1, h2⟩
theorem refGetDigs_v (A : Option Addr) (cap : Nat) (l : List UInt8) (w : World) (hx : Sl w w.heap.size A 1 l.length (l.map bv)) (hlc : l.length ≤ cap) (hc : cap ≤ maxLen) (hl : l.length ≤ 1000000000) (ds : List (List UInt8)) (u e : Nat)
    (hd : decD l = (ds, u, e)) :
    Calls Try.prog 29 #[.slice A l.length cap] w fun x w' => ∃ A' c', x = .returned (.tuple #[.slice A' ds.length c', .int .i64 (u : Int), .int .i64 (e : Int)]) ∧ Sl w' w'.heap.size A' 16 ds.length (ds.flatten.map bv) ∧ Below w.heap.size w w' := by
  refine (refGetDigests_any A cap l w hx hlc hc hl).mono ?_
  rintro x w' ⟨v', rfl, h1, h2⟩
  rw [hd] at h1 ⊢
  obtain ⟨A', c', rfl, _, _⟩ := own_form h1
  exact ⟨A', c', rfl, Sl.of_own h1, h2⟩
theorem sameI_v (A A' : Option Addr) (c c' : Nat) (xs : List Int) (w : World) (hx : Sl w w.heap.size A 1 xs.length (xs.map iv)) (hy : Sl w w.heap.size A' 1 xs.length (xs.map iv)) (hl : xs.length ≤ 1000000000) :
    Calls Try.prog 27 #[.slice A xs.length c, .slice A' xs.length c'] w fun e w' => e = .returned (.bool true) ∧ ∃ n, w' = w.drewN n := by
  refine (sameInts_any A A' _ _ c c' xs xs w hx hy hl hl).mono ?_
  rintro x w' ⟨rfl, h⟩
  exact ⟨ret_b (decide_eq_true rfl), h⟩
theorem sameD_v (A A' : Option Addr) (c c' : Nat) (xs : List (List UInt8)) (w : World) (hx : Sl w w.heap.size A 16 xs.length (xs.flatten.map bv)) (hy : Sl w w.heap.size A' 16 xs.length (xs.flatten.map bv)) (hd : ∀ d ∈ xs, d.length = 16) (hl : xs.length ≤ 1000000000) :
    Calls Try.prog 30 #[.slice A xs.length c, .slice A' xs.length c'] w fun e w' => e = .returned (.bool true) ∧ ∃ n, w' = w.drewN n := by
  refine (sameDigs_any A A' _ _ c c' xs xs w hx hy hd hd hl hl).mono ?_
  rintro x w' ⟨rfl, h⟩
  exact ⟨ret_b (decide_eq_true rfl), h⟩

end Go.Proofs.Yticgbohkgjheaaa
