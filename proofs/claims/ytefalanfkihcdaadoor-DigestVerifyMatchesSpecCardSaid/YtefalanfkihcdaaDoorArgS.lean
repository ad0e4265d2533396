/-
  Arguments that came in: slices of strings, digests, as lists.
-/
import Derived.Test.YtefalanfkihcdaaDoorArgs
namespace Go.Proofs.YtefalanfkihcdaaDoor
open Go.ChangeShapes Go.WideShapes Go.ChangeAt Go.RowKit
set_option linter.unusedVariables false

theorem strs_of : ∀ css : List (List Value), (∀ cs ∈ css, (∃ s : ByteArray, cs = [.string s] ∧ s.size ≤ maxLen) ∧ cs.length = 1) →
    ∃ l : List ByteArray, l.length = css.length ∧ css.flatten = l.map Value.string ∧ ∀ s ∈ l, s.size ≤ maxLen
  | [], _ => ⟨[], rfl, rfl, by simp⟩
  | cs :: r, h => by
    obtain ⟨⟨b, rfl, hb⟩, _⟩ := h cs (by simp)
    obtain ⟨l, h1, h2, h3⟩ := strs_of r fun x hx => h x (by simp [hx])
    exact ⟨b :: l, by simp [h1], by simp [h2], by intro n hn; rcases List.mem_cons.1 hn with rfl | hn; exact hb; exact h3 n hn⟩
section
variable {H : Type} {enc : TypeId × Value → H} {w : World} {A : Option Addr} {len cap : Nat} {d : DataW H} {p : List MemPlace}
theorem open_strs (h : DataW.Trod enc Tryd.prog w 0 (fun _ => true) true 28 (.slice A len cap) d p) :
    len ≤ cap ∧ cap ≤ maxLen ∧ ((d = .nil ∧ len = 0) ∨ ∃ es rs, d = .slice es rs ∧ es.length = len) ∧ ∃ l : List ByteArray, l.length = len ∧ Sl w w.heap.size A 1 len (l.map Value.string) ∧ ∀ s ∈ l, s.size ≤ maxLen := by
  obtain ⟨fuel, hf⟩ := h
  obtain ⟨h1, h2, hd, css, h3, h4, h5⟩ := open_elems (size := 1) Tryd.underlying28 (by kernel_rfl) (by omega) (fun cs => ∃ s : ByteArray, cs = [.string s] ∧ s.size ≤ maxLen) (fun n cs y _ hy => by
    obtain ⟨s, rfl, _, hw⟩ := DataW.trod_string Tryd.underlying9 hy
    exact ⟨s, rfl, hw⟩) hf
  obtain ⟨l, q1, q2, q3⟩ := strs_of css h4
  exact ⟨h1, h2, hd, l, q1.trans h3, q2 ▸ h5, q3⟩
end

end Go.Proofs.YtefalanfkihcdaaDoor
