/-
  Decoders met with truncated input; a slice cut to its beginning.
-/
import Derived.Test.YticgbohkgjheaaaV
namespace Go.Proofs.Yticgbohkgjheaaa
open Go.RowKit
set_option linter.unusedVariables false

theorem cut_to {P : Program} {T e : TypeId} {size : Nat} (hT : P.underlying T = some (.slice e)) (hs : ∀ W, (sizeOf e).run P W = .ok size W) (A : Option Addr) {n cap h : Nat} (hh : h ≤ n) (hn : n ≤ cap) :
    ∃ A', (∀ W, (Instr.sliceAt T (.slice A n cap) none (some (.int .i64 (h : Int))) none).run P W = .ok (.slice A' h cap) W) ∧
      ∀ w B xs, Sl w B A size n xs → Sl w B A' size h (xs.take (h * size)) := by
  have hel : P.elem T = e := by simp [Program.elem, hT]
  refine ⟨if cap = 0 then A else A.map (·.add (0 * size)), fun W => ?_, fun w B xs hq => ?_⟩
  · rw [run_sliceAt_slice W T _ _ _ _ (by rw [hel]; exact hT), run_slice_h W T A n cap (by rw [hel]; exact hT) .i64 h (by omega) (by omega), hel, hs]
    simp only [Result.andThen, sliced, Int.toNat_natCast, Nat.sub_zero]
  · have := (hq.drop (k := 0) (cap := cap) (Nat.zero_le _) hn).take (k := h) (by omega)
    simpa using this

theorem own_ints (A : Option Addr) (c : Nat) (l : List Int) (w : World) (hx : Sl w w.heap.size A 1 l.length (l.map iv)) (hr : ∀ n ∈ l, -9223372036854775808 ≤ n ∧ n ≤ 9223372036854775807) (hl : l.length ≤ 10000000) :
    Calls Try.prog 17 #[.slice A l.length c] w fun e w' => ∃ A' c', e = .returned (.slice A' (encI l).length c') ∧ w'.ownsRow w.heap.size 5 1 (.slice A' (encI l).length c') (encI l).length ((encI l).map bv) ∧ Below w.heap.size w w' := by
  refine (ints_any A _ c l w hx (Nat.le_refl _) hr hl).mono ?_
  rintro x w' ⟨v', rfl, h1, h2⟩
  obtain ⟨A', c', rfl, h3, _⟩ := own_form h1
  exact ⟨A', c', rfl, h1, h2⟩
theorem own_digs (A : Option Addr) (c : Nat) (l : List (List UInt8)) (w : World) (hx : Sl w w.heap.size A 16 l.length (l.flatten.map bv)) (hr : ∀ d ∈ l, d.length = 16) (hl : l.length ≤ 1000000) :
    Calls Try.prog 19 #[.slice A l.length c] w fun e w' => ∃ A' c', e = .returned (.slice A' (encD l).length c') ∧ w'.ownsRow w.heap.size 5 1 (.slice A' (encD l).length c') (encD l).length ((encD l).map bv) ∧ Below w.heap.size w w' := by
  refine (digests_any A _ c l w hx hr (Nat.le_refl _) hl).mono ?_
  rintro x w' ⟨v', rfl, h1, h2⟩
  obtain ⟨A', c', rfl, h3, _⟩ := own_form h1
  exact ⟨A', c', rfl, h1, h2⟩

theorem getInt_t (A : Option Addr) (cap : Nat) (l : List UInt8) (w : World) (hx : Sl w w.heap.size A 1 l.length (l.map bv)) (hlc : l.length ≤ cap) (hc : cap ≤ maxLen) (h5 : (dec l).2.2 = 5) :
    Calls Try.prog 21 #[.slice A l.length cap] w fun x w' => (∃ v u, x = .returned (.tuple #[v, u, .int .i64 5])) ∧ Below w.heap.size w w' := by
  refine (getInt_any A _ cap l w hx hlc hc).mono ?_
  rintro x w' ⟨rfl, rfl⟩
  unfold decV
  rw [h5]
  exact ⟨⟨_, _, rfl⟩, Below.refl _ _⟩
theorem getBytes_t (A : Option Addr) (cap : Nat) (l : List UInt8) (w : World) (hx : Sl w w.heap.size A 1 l.length (l.map bv)) (hlc : l.length ≤ cap) (hc : cap ≤ maxLen) (h5 : (decB l).2.2 = 5) :
    Calls Try.prog 23 #[.slice A l.length cap] w fun x w' => (∃ v u, x = .returned (.tuple #[v, u, .int .i64 5])) ∧ Below w.heap.size w w' := by
  refine (getBytes_any A _ cap l w hx hlc hc).mono ?_
  rintro x w' ⟨rfl, rfl⟩
  unfold byV
  rw [h5]
  exact ⟨⟨_, _, rfl⟩, Below.refl _ _⟩
theorem getInts_t (A : Option Addr) (cap : Nat) (l : List UInt8) (w : World) (hx : Sl w w.heap.size A 1 l.length (l.map bv)) (hlc : l.length ≤ cap) (hc : cap ≤ maxLen) (hl : l.length ≤ 1000000000) (h5 : (decI l).2.2 = 5) :
    Calls Try.prog 25 #[.slice A l.length cap] w fun x w' => (∃ v u, x = .returned (.tuple #[v, u, .int .i64 5])) ∧ Below w.heap.size w w' := by
  refine (getInts_any A _ cap l w hx (Nat.le_refl _) hlc hc hl).mono ?_
  rintro x w' ⟨v', rfl, h1, h2⟩
  rw [h5]
  exact ⟨⟨_, _, rfl⟩, h2⟩
theorem getDigs_t (A : Option Addr) (cap : Nat) (l : List UInt8) (w : World) (hx : Sl w w.heap.size A 1 l.length (l.map bv)) (hlc : l.length ≤ cap) (hc : cap ≤ maxLen) (hl : l.length ≤ 1000000000) (h5 : (decD l).2.2 = 5) :
    Calls Try.prog 28 #[.slice A l.length cap] w fun x w' => (∃ v u, x = .returned (.tuple #[v, u, .int .i64 5])) ∧ Below w.heap.size w w' := by
  refine (getDigests_any A _ cap l w hx (Nat.le_refl _) hlc hc hl).mono ?_
  rintro x w' ⟨v', rfl, h1, h2⟩
  rw [h5]
  exact ⟨⟨_, _, rfl⟩, h2⟩

/-- A decoder of truncated input, met at the beginnings of one slice. -/
def Cuts (P : Program) (f : FuncId) (l : List UInt8) : Prop :=
  ∀ (A : Option Addr) (cap i : Nat) (w : World), i < l.length → l.length ≤ cap → cap ≤ maxLen → Sl w w.heap.size A 1 i ((l.take i).map bv) →
    Calls P f #[.slice A i cap] w fun x w' => (∃ v u, x = .returned (.tuple #[v, u, .int .i64 5])) ∧ Below w.heap.size w w'
theorem cuts_int (l : List UInt8) (h : ∀ i, i < l.length → (dec (l.take i)).2.2 = 5) : Cuts Try.prog 21 l := by
  intro A cap i w hi hlc hc hx
  have hl : (l.take i).length = i := by rw [List.length_take]; omega
  have := getInt_t A cap (l.take i) w (by rw [hl]; exact hx) (by omega) hc (h i hi)
  rwa [hl] at this
theorem cuts_bytes (l : List UInt8) (h : ∀ i, i < l.length → (decB (l.take i)).2.2 = 5) : Cuts Try.prog 23 l := by
  intro A cap i w hi hlc hc hx
  have hl : (l.take i).length = i := by rw [List.length_take]; omega
  have := getBytes_t A cap (l.take i) w (by rw [hl]; exact hx) (by omega) hc (h i hi)
  rwa [hl] at this
theorem cuts_ints (l : List UInt8) (hs : l.length ≤ 1000000000) (h : ∀ i, i < l.length → (decI (l.take i)).2.2 = 5) : Cuts Try.prog 25 l := by
  intro A cap i w hi hlc hc hx
  have hl : (l.take i).length = i := by rw [List.length_take]; omega
  have := getInts_t A cap (l.take i) w (by rw [hl]; exact hx) (by omega) hc (by omega) (h i hi)
  rwa [hl] at this
theorem cuts_digs (l : List UInt8) (hs : l.length ≤ 1000000000) (h : ∀ i, i < l.length → (decD (l.take i)).2.2 = 5) : Cuts Try.prog 28 l := by
  intro A cap i w hi hlc hc hx
  have hl : (l.take i).length = i := by rw [List.length_take]; omega
  have := getDigs_t A cap (l.take i) w (by rw [hl]; exact hx) (by omega) hc (by omega) (h i hi)
  rwa [hl] at this

end Go.Proofs.Yticgbohkgjheaaa
