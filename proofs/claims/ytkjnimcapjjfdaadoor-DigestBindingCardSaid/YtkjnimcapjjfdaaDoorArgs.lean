/-
  Arguments that came in: slices of digests, as lists.
  Arguments that came in: a digest.
  Arguments that came in: slices of strings, digests, as lists.
-/
import Derived.Test.YtkjnimcapjjfdaaDoorDig
import Derived.Test.YtkjnimcapjjfdaaDoorArgE
namespace Go.Proofs.YtkjnimcapjjfdaaDoor
open Go.ChangeShapes Go.WideShapes Go.ChangeAt Go.RowKit
set_option linter.unusedVariables false

theorem digs_of : ∀ css : List (List Value), (∀ cs ∈ css, (∃ d : List UInt8, cs = d.map bv) ∧ cs.length = 16) → ∃ l : List (List UInt8), l.length = css.length ∧ css.flatten = l.flatten.map bv ∧ ∀ d ∈ l, d.length = 16
  | [], _ => ⟨[], rfl, rfl, by simp⟩
  | cs :: r, h => by
    obtain ⟨⟨d, rfl⟩, hl⟩ := h cs (by simp)
    obtain ⟨l, h1, h2, h3⟩ := digs_of r fun x hx => h x (by simp [hx])
    exact ⟨d :: l, by simp [h1], by simp [h2], by intro n hn; rcases List.mem_cons.1 hn with rfl | hn; simpa using hl; exact h3 n hn⟩

section
variable {H : Type} {enc : TypeId × Value → H} {w : World} {A : Option Addr} {len cap : Nat} {d : DataW H} {p : List MemPlace}
theorem open_digs (h : DataW.Trod enc Tryd.prog w 0 (fun _ => true) true 34 (.slice A len cap) d p) :
    len ≤ cap ∧ cap ≤ maxLen ∧ ((d = .nil ∧ len = 0) ∨ ∃ es rs, d = .slice es rs ∧ es.length = len) ∧ ∃ l : List (List UInt8), l.length = len ∧ Sl w w.heap.size A 16 len (l.flatten.map bv) ∧ ∀ d ∈ l, d.length = 16 := by
  obtain ⟨fuel, hf⟩ := h
  have hc1 : Tryd.prog.cellsOf 5 = 1 := by kernel_rfl
  obtain ⟨h1, h2, hd, css, h3, h4, h5⟩ := open_elems (size := 16) Tryd.underlying34 (by kernel_rfl) (by omega) (fun cs => ∃ d : List UInt8, cs = d.map bv) (fun n cs y hcl hy => by
    obtain ⟨xs, m, _, _, _, hxl, hx⟩ := DataW.trod_array (n := 16) (e := 5) (by kernel_rfl) hy
    rw [hc1] at hx
    have each : ∀ v ∈ cs, ∃ b : UInt8, v = bv b := by
      intro v hv
      obtain ⟨i, hi, rfl⟩ := List.mem_iff_getElem.1 hv
      have h7 := hx i (by omega)
      rw [Nat.mul_one, List.getElem?_eq_getElem (by omega)] at h7
      obtain ⟨z, hz, _, hw⟩ := DataW.trod_int Tryd.underlying5 h7
      rw [List.drop_eq_getElem_cons hi, List.take_succ_cons, List.take_zero] at hz
      injection hz with hz _
      exact ⟨UInt8.ofNat z.toNat, by rw [hz, bv_of (wf_u8 hw)]⟩
    exact list_bv cs each) hf
  obtain ⟨l, q1, q2, q3⟩ := digs_of css h4
  exact ⟨h1, h2, hd, l, q1.trans h3, q2 ▸ h5, q3⟩
end

theorem dig_cells {H : Type} {enc : TypeId × Value → H} {w : World} {n : Nat} {cs : List Value} {y : DataW H × List MemPlace} (hcl : cs.length = 16) (hy : DataW.trod enc Tryd.prog w 0 (fun _ => true) true n 30 cs = some y) : ∃ d : List UInt8, cs = d.map bv := by
  have hc1 : Tryd.prog.cellsOf 5 = 1 := by kernel_rfl
  obtain ⟨xs, m, _, _, _, hxl, hx⟩ := DataW.trod_array (n := 16) (e := 5) (by kernel_rfl) hy
  rw [hc1] at hx
  have each : ∀ v ∈ cs, ∃ b : UInt8, v = bv b := by
    intro v hv
    obtain ⟨i, hi, rfl⟩ := List.mem_iff_getElem.1 hv
    have h7 := hx i (by omega)
    rw [Nat.mul_one, List.getElem?_eq_getElem (by omega)] at h7
    obtain ⟨z, hz, _, hw⟩ := DataW.trod_int Tryd.underlying5 h7
    rw [List.drop_eq_getElem_cons hi, List.take_succ_cons, List.take_zero] at hz
    injection hz with hz _
    exact ⟨UInt8.ofNat z.toNat, by rw [hz, bv_of (wf_u8 hw)]⟩
  exact list_bv cs each
theorem open_dig {H : Type} {enc : TypeId × Value → H} {w : World} {v : Value} {d : DataW H} {p : List MemPlace} (hv : Value.okWide Tryd.prog w .any 0 30 v)
    (h : DataW.Trod enc Tryd.prog w 0 (fun _ => true) true 30 v d p) : ∃ l : List UInt8, v = dv l ∧ l.length = 16 := by
  have hu : Tryd.prog.underlying 30 = some (.array 16 5) := by kernel_rfl
  have hc : Tryd.prog.cellsOf 30 = 16 := by kernel_rfl
  unfold Value.okWide at hv
  rw [hu] at hv
  obtain ⟨cs, rfl, hs, _⟩ := hv
  obtain ⟨fuel, hf⟩ := h
  have hl : cs.toList.length = 16 := by rw [Array.length_toList, hs, hc]
  obtain ⟨l, hl2⟩ := dig_cells hl hf
  refine ⟨l, ?_, by rw [hl2, List.length_map] at hl; exact hl⟩
  show Value.agg cs = .agg (l.map bv).toArray
  rw [← hl2]

theorem strs_of : ∀ css : List (List Value), (∀ cs ∈ css, (∃ s : ByteArray, cs = [.string s] ∧ s.size ≤ maxLen) ∧ cs.length = 1) →
    ∃ l : List ByteArray, l.length = css.length ∧ css.flatten = l.map Value.string ∧ ∀ s ∈ l, s.size ≤ maxLen
  | [], _ => ⟨[], rfl, rfl, by simp⟩
  | cs :: r, h => by
    obtain ⟨⟨b, rfl, hb⟩, _⟩ := h cs (by simp)
    obtain ⟨l, h1, h2, h3⟩ := strs_of r fun x hx => h x (by simp [hx])
    exact ⟨b :: l, by simp [h1], by simp [h2], by intro n hn; rcases List.mem_cons.1 hn with rfl | hn; exact hb; exact h3 n hn⟩
section
variable {H : Type} {enc : TypeId × Value → H} {w : World} {A : Option Addr} {len cap : Nat} {d : DataW H} {p : List MemPlace}
theorem open_strs (h : DataW.Trod enc Tryd.prog w 0 (fun _ => true) true 28 (.slice A len cap) d p) :
    len ≤ cap ∧ cap ≤ maxLen ∧ ((d = .nil ∧ len = 0) ∨ ∃ es rs, d = .slice es rs ∧ es.length = len) ∧ ∃ l : List ByteArray, l.length = len ∧ Sl w w.heap.size A 1 len (l.map Value.string) ∧ ∀ s ∈ l, s.size ≤ maxLen := by
  obtain ⟨fuel, hf⟩ := h
  obtain ⟨h1, h2, hd, css, h3, h4, h5⟩ := open_elems (size := 1) Tryd.underlying28 (by kernel_rfl) (by omega) (fun cs => ∃ s : ByteArray, cs = [.string s] ∧ s.size ≤ maxLen) (fun n cs y _ hy => by
    obtain ⟨s, rfl, _, hw⟩ := DataW.trod_string Tryd.underlying9 hy
    exact ⟨s, rfl, hw⟩) hf
  obtain ⟨l, q1, q2, q3⟩ := strs_of css h4
  exact ⟨h1, h2, hd, l, q1.trans h3, q2 ▸ h5, q3⟩
end

end Go.Proofs.YtkjnimcapjjfdaaDoor
