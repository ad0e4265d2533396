/-
  The contracts of wire's functions, in the form in which the laws meet them.
-/
import Derived.Test.YticgbohkgjheaaaApp
import Derived.Test.YticgbohkgjheaaaThmB
namespace Go.Proofs.Yticgbohkgjheaaa
open Go.RowKit
set_option linter.unusedVariables false

theorem getInt_v (A : Option Addr) (B cap : Nat) (l : List UInt8) (w : World) (hx : Sl w B A 1 l.length (l.map bv)) (hlc : l.length ≤ cap) (hc : cap ≤ maxLen) (n u e : Int) (hd : (dec l).1 = n ∧ ((dec l).2.1 : Int) = u ∧ ((dec l).2.2 : Int) = e) :
    Calls Try.prog 21 #[.slice A l.length cap] w fun x w' => x = .returned (.tuple #[.int .i64 n, .int .i64 u, .int .i64 e]) ∧ w = w' := by
  refine (getInt_any A B cap l w hx hlc hc).mono ?_
  rintro x w' ⟨rfl, rfl⟩
  exact ⟨by rw [← hd.1, ← hd.2.1, ← hd.2.2]; rfl, rfl⟩
theorem int_v (n : Int) (w : World) (hn : -9223372036854775808 ≤ n) (hn' : n ≤ 9223372036854775807) :
    Calls Try.prog 13 #[.int .i64 n] w fun e w' => ∃ A' c', e = .returned (.slice A' (enc n).length c') ∧ (enc n).length ≤ c' ∧ Sl w' w'.heap.size A' 1 (enc n).length ((enc n).map bv) ∧ Below w.heap.size w w' := by
  refine (int_any n w hn hn').mono ?_
  rintro x w' ⟨v', rfl, h1, h2⟩
  obtain ⟨A', c', rfl, h3, _⟩ := own_form h1
  exact ⟨A', c', rfl, h3, Sl.of_own h1, h2⟩
theorem Sl.drewN {w : World} {B size n : Nat} {A : Option Addr} {xs : List Value} (h : Sl w B A size n xs) (k : Nat) : Sl (w.drewN k) B A size n xs := h
theorem encB_le (s : List UInt8) (h : s.length ≤ 1000000000) : (encB s).length ≤ 9 + s.length := by
  have := enc_le (s.length : Int) (by omega) (by omega)
  unfold encB
  rw [List.length_append]; omega
theorem encI_le (l : List Int) (h : l.length ≤ 1000000000) (hr : ∀ n ∈ l, -9223372036854775808 ≤ n ∧ n ≤ 9223372036854775807) : (encI l).length ≤ 9 + 9 * l.length := by
  have := enc_le (l.length : Int) (by omega) (by omega)
  have := flat_le l hr
  unfold encI
  rw [List.length_append]; omega
theorem encD_le (l : List (List UInt8)) (h : l.length ≤ 1000000000) (hr : ∀ d ∈ l, d.length = 16) : (encD l).length ≤ 9 + 16 * l.length := by
  have := enc_le (l.length : Int) (by omega) (by omega)
  have := flat16 l hr
  unfold encD
  rw [List.length_append]; omega

theorem getBytes_v (A : Option Addr) (B cap : Nat) (l : List UInt8) (w : World) (hx : Sl w B A 1 l.length (l.map bv)) (hlc : l.length ≤ cap) (hc : cap ≤ maxLen) (s : ByteArray) (u e : Int)
    (hd : (decB l).1 = s.data.toList ∧ ((decB l).2.1 : Int) = u ∧ ((decB l).2.2 : Int) = e) :
    Calls Try.prog 23 #[.slice A l.length cap] w fun x w' => x = .returned (.tuple #[.string s, .int .i64 u, .int .i64 e]) ∧ w = w' := by
  refine (getBytes_any A B cap l w hx hlc hc).mono ?_
  rintro x w' ⟨rfl, rfl⟩
  refine ⟨?_, rfl⟩
  unfold byV
  rw [hd.1, ← hd.2.1, ← hd.2.2]
theorem getInts_v (A : Option Addr) (cap : Nat) (l : List UInt8) (w : World) (hx : Sl w w.heap.size A 1 l.length (l.map bv)) (hlc : l.length ≤ cap) (hc : cap ≤ maxLen) (hl : l.length ≤ 1000000000) (ns : List Int) (u e : Int)
    (hd : (decI l).1 = ns ∧ ((decI l).2.1 : Int) = u ∧ ((decI l).2.2 : Int) = e) :
    Calls Try.prog 25 #[.slice A l.length cap] w fun x w' => ∃ A' c', x = .returned (.tuple #[.slice A' ns.length c', .int .i64 u, .int .i64 e]) ∧ Sl w' w'.heap.size A' 1 ns.length (ns.map iv) ∧ Below w.heap.size w w' := by
  refine (getInts_any A _ cap l w hx (Nat.le_refl _) hlc hc hl).mono ?_
  rintro x w' ⟨v', rfl, h1, h2⟩
  rw [hd.1] at h1
  obtain ⟨A', c', rfl, _, _⟩ := own_form h1
  exact ⟨A', c', by rw [← hd.2.1, ← hd.2.2], Sl.of_own h1, h2⟩
theorem getDigs_v (A : Option Addr) (cap : Nat) (l : List UInt8) (w : World) (hx : Sl w w.heap.size A 1 l.length (l.map bv)) (hlc : l.length ≤ cap) (hc : cap ≤ maxLen) (hl : l.length ≤ 1000000000) (ds : List (List UInt8)) (u e : Int)
    (hd : (decD l).1 = ds ∧ ((decD l).2.1 : Int) = u ∧ ((decD l).2.2 : Int) = e) :
    Calls Try.prog 28 #[.slice A l.length cap] w fun x w' => ∃ A' c', x = .returned (.tuple #[.slice A' ds.length c', .int .i64 u, .int .i64 e]) ∧ Sl w' w'.heap.size A' 16 ds.length (ds.flatten.map bv) ∧ Below w.heap.size w w' := by
  refine (getDigests_any A _ cap l w hx (Nat.le_refl _) hlc hc hl).mono ?_
  rintro x w' ⟨v', rfl, h1, h2⟩
  rw [hd.1] at h1
  obtain ⟨A', c', rfl, _, _⟩ := own_form h1
  exact ⟨A', c', by rw [← hd.2.1, ← hd.2.2], Sl.of_own h1, h2⟩
theorem ints_v (A : Option Addr) (c : Nat) (l : List Int) (w : World) (hx : Sl w w.heap.size A 1 l.length (l.map iv)) (hr : ∀ n ∈ l, -9223372036854775808 ≤ n ∧ n ≤ 9223372036854775807) (hl : l.length ≤ 10000000) :
    Calls Try.prog 17 #[.slice A l.length c] w fun e w' => ∃ A' c', e = .returned (.slice A' (encI l).length c') ∧ (encI l).length ≤ c' ∧ Sl w' w'.heap.size A' 1 (encI l).length ((encI l).map bv) ∧ Below w.heap.size w w' := by
  refine (ints_any A _ c l w hx (Nat.le_refl _) hr hl).mono ?_
  rintro x w' ⟨v', rfl, h1, h2⟩
  obtain ⟨A', c', rfl, h3, _⟩ := own_form h1
  exact ⟨A', c', rfl, h3, Sl.of_own h1, h2⟩
theorem digs_v (A : Option Addr) (c : Nat) (l : List (List UInt8)) (w : World) (hx : Sl w w.heap.size A 16 l.length (l.flatten.map bv)) (hr : ∀ d ∈ l, d.length = 16) (hl : l.length ≤ 1000000) :
    Calls Try.prog 19 #[.slice A l.length c] w fun e w' => ∃ A' c', e = .returned (.slice A' (encD l).length c') ∧ (encD l).length ≤ c' ∧ Sl w' w'.heap.size A' 1 (encD l).length ((encD l).map bv) ∧ Below w.heap.size w w' := by
  refine (digests_any A _ c l w hx hr (Nat.le_refl _) hl).mono ?_
  rintro x w' ⟨v', rfl, h1, h2⟩
  obtain ⟨A', c', rfl, h3, _⟩ := own_form h1
  exact ⟨A', c', rfl, h3, Sl.of_own h1, h2⟩
theorem bytes_v (s : ByteArray) (w : World) (hs : s.size ≤ 100000000) :
    Calls Try.prog 15 #[.string s] w fun e w' => ∃ A' c', e = .returned (.slice A' (encB s.data.toList).length c') ∧ (encB s.data.toList).length ≤ c' ∧ Sl w' w'.heap.size A' 1 (encB s.data.toList).length ((encB s.data.toList).map bv) ∧ Below w.heap.size w w' := by
  refine (bytes_any s w hs).mono ?_
  rintro x w' ⟨v', rfl, h1, h2⟩
  obtain ⟨A', c', rfl, h3, _⟩ := own_form h1
  exact ⟨A', c', rfl, h3, Sl.of_own h1, h2⟩

end Go.Proofs.Yticgbohkgjheaaa
