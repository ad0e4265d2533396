/-
  Arguments that came in: an array of four bytes.
-/
import Derived.Test.YtbejmcndflmgaaaDoorArgE
namespace Go.Proofs.YtbejmcndflmgaaaDoor
open Go.ChangeShapes Go.WideShapes Go.ChangeAt Go.RowKit
set_option linter.unusedVariables false

section
variable {H : Type} {enc : TypeId × Value → H} {w : World} {A : Option Addr} {len cap : Nat} {d : DataW H} {p : List MemPlace}
theorem open_arr {v : Value} (hv : Value.okWide Tryd.prog w .any 0 31 v) (h : DataW.Trod enc Tryd.prog w 0 (fun _ => true) true 31 v d p) :
    ∃ l : List UInt8, v = .agg (l.map bv).toArray ∧ l.length = 4 := by
  have hu : Tryd.prog.underlying 31 = some (.array 4 5) := by kernel_rfl
  have hc : Tryd.prog.cellsOf 31 = 4 := by kernel_rfl
  unfold Value.okWide at hv
  rw [hu] at hv
  obtain ⟨cs, rfl, hs, _⟩ := hv
  obtain ⟨fuel, hf⟩ := h
  have hl : cs.toList.length = 4 := by rw [Array.length_toList, hs, hc]
  have hf : DataW.trod enc Tryd.prog w 0 (fun _ => true) true fuel 31 cs.toList = some (d, p) := hf
  have hc1 : Tryd.prog.cellsOf 5 = 1 := by kernel_rfl
  obtain ⟨xs, m, _, _, _, hxl, hx⟩ := DataW.trod_array (n := 4) (e := 5) (by kernel_rfl) hf
  rw [hc1] at hx
  have each : ∀ v ∈ cs.toList, ∃ b : UInt8, v = bv b := by
    intro v hv
    obtain ⟨i, hi, rfl⟩ := List.mem_iff_getElem.1 hv
    have h7 := hx i (by omega)
    rw [Nat.mul_one, List.getElem?_eq_getElem (by omega)] at h7
    obtain ⟨z, hz, _, hw⟩ := DataW.trod_int Tryd.underlying5 h7
    rw [List.drop_eq_getElem_cons hi, List.take_succ_cons, List.take_zero] at hz
    injection hz with hz _
    exact ⟨UInt8.ofNat z.toNat, by rw [hz, bv_of (wf_u8 hw)]⟩
  obtain ⟨l, hl2⟩ := list_bv cs.toList each
  refine ⟨l, ?_, by rw [hl2, List.length_map] at hl; exact hl⟩
  rw [← hl2]
end

end Go.Proofs.YtbejmcndflmgaaaDoor
