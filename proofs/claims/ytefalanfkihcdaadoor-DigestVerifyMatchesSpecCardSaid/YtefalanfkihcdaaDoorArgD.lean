/-
  Arguments that came in: a digest.
-/
import Derived.Test.YtefalanfkihcdaaDoorArgs
namespace Go.Proofs.YtefalanfkihcdaaDoor
open Go.ChangeShapes Go.WideShapes Go.ChangeAt Go.RowKit
set_option linter.unusedVariables false

theorem dig_cells {H : Type} {enc : TypeId × Value → H} {w : World} {n : Nat} {cs : List Value} {y : DataW H × List MemPlace} (hcl : cs.length = 16) (hy : DataW.trod enc Tryd.prog w 0 (fun _ => true) true n 30 cs = some y) : ∃ d : List UInt8, cs = d.map bv := by
  have hc1 : Tryd.prog.cellsOf 5 = 1 := by kernel_rfl
  obtain ⟨xs, m, _, _, _, hxl, hx⟩ := DataW.trod_array (n := 16) (e := 5) (by kernel_rfl) hy
  rw [hc1] at hx
  have each : ∀ v ∈ cs, ∃ b : UInt8, v = bv b := by
    intro v hv
    obtain ⟨i, hi, rfl⟩ := List.mem_iff_getElem.1 hv
    have h7 := hx i (by omega)
    rw [Nat.mul_one, List.getElem?_eq_getElem (by omega)] at h7
    obtain ⟨z, hz, _, hw⟩ := DataW.trod_int Tryd.underlying5 h7
    rw [List.drop_eq_getElem_cons hi, List.take_succ_cons, List.take_zero] at hz
    injection hz with hz _
    exact ⟨UInt8.ofNat z.toNat, by rw [hz, bv_of (wf_u8 hw)]⟩
  exact list_bv cs each
theorem open_dig {H : Type} {enc : TypeId × Value → H} {w : World} {v : Value} {d : DataW H} {p : List MemPlace} (hv : Value.okWide Tryd.prog w .any 0 30 v)
    (h : DataW.Trod enc Tryd.prog w 0 (fun _ => true) true 30 v d p) : ∃ l : List UInt8, v = dv l ∧ l.length = 16 := by
  have hu : Tryd.prog.underlying 30 = some (.array 16 5) := by kernel_rfl
  have hc : Tryd.prog.cellsOf 30 = 16 := by kernel_rfl
  unfold Value.okWide at hv
  rw [hu] at hv
  obtain ⟨cs, rfl, hs, _⟩ := hv
  obtain ⟨fuel, hf⟩ := h
  have hl : cs.toList.length = 16 := by rw [Array.length_toList, hs, hc]
  obtain ⟨l, hl2⟩ := dig_cells hl hf
  refine ⟨l, ?_, by rw [hl2, List.length_map] at hl; exact hl⟩
  show Value.agg cs = .agg (l.map bv).toArray
  rw [← hl2]
end Go.Proofs.YtefalanfkihcdaaDoor
