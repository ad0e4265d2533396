/-
  What stage 10 stands on, cut out of older texts. (LaidF.)
-/
import Derived.Test.YtklngodlijiccaaDoorRows
import Derived.ProofKit
import Derived.LaidMore
import Derived.OpenShut
import Derived.Stop.Joined
import Derived.Test.YtklngodlijiccaaDoorE10a
import Derived.Test.YtklngodlijiccaaDoorE10b
namespace Go.Proofs.YtklngodlijiccaaDoor
set_option linter.unusedVariables false
set_option linter.unusedSimpArgs false
set_option linter.unusedSectionVars false

section
open Go.ChangeShapes Go.WideShapes Go.ChangeAt Go.RowKit
set_option linter.unusedVariables false
set_option maxRecDepth 100000 in
theorem tabl_of {H : Type} {enc : TypeId × Value → H} {W : World} {name : String} {g : Nat} {cs : Array Value} {fuel : Nat} {d : DataW H} {q : List MemPlace} {held : Bool} {spare : Nat → Bool} {T e : TypeId} {n : Nat} {k : IntKind} {ns : List Int}
    (hT : Tryd.prog.underlying T = some (.array n e)) (he : Tryd.prog.underlying e = some (.int k)) (hcn : Tryd.prog.cellsOf T = n) (c1 : Tryd.prog.cellsOf e = 1) (hn0 : 0 < n) (hln : ns.length = n)
    (hg : Tryd.prog.globalNamed name = some g) (hv : W.var? Tryd.prog name = some cs) (hd : DataW.trod enc Tryd.prog W 0 spare held fuel T cs.toList = some (d, q)) (hdd : d = .agg (ns.map fun m => .lit (.int k m))) :
    g < W.heap.size ∧ ∀ j, j < n → W.cell? ⟨g, j, none⟩ = some (.int k (ns.getD j 0)) := by
  obtain ⟨xs, m, _, hx, hlen, hn, hel⟩ := DataW.trod_array hT hd
  rw [c1] at hel
  have hcl : cs.toList.length = n := by rw [hlen]; exact hcn
  simp only [Prod.mk.injEq] at hx
  have hcell : ∀ j, j < n → W.cell? ⟨g, j, none⟩ = some (.int k (ns.getD j 0)) := by
    intro j hj
    rw [World.var?_cell hg hv j]
    have h7 := hel j hj
    rw [Nat.mul_one, List.getElem?_eq_getElem (by omega)] at h7
    obtain ⟨z, hz, hx1, _⟩ := DataW.trod_int he (show DataW.trod _ Tryd.prog W 0 _ held m e _ = some xs[j] from h7)
    rw [List.drop_eq_getElem_cons (by omega), List.take_succ_cons, List.take_zero] at hz
    injection hz with hz _
    have h8 : (xs.map (·.1))[j]? = some xs[j].1 := by rw [List.getElem?_map, List.getElem?_eq_getElem (by omega)]; rfl
    have h9 := hx.1.symm.trans hdd
    injection h9 with h9
    rw [h9, List.getElem?_map] at h8
    have hk : ns[j]? = some (ns.getD j 0) := by
      rw [List.getD_eq_getElem?_getD, List.getElem?_eq_getElem (by omega)]; rfl
    rw [hk, hx1] at h8
    simp only [Option.map_some, Option.some.injEq, DataW.lit.injEq, Lit.int.injEq, true_and] at h8
    have h10 : cs[j]? = some cs.toList[j] := by rw [← Array.getElem?_toList, List.getElem?_eq_getElem (by omega)]
    rw [h10, hz, ← h8]
  exact ⟨World.block_lt_of_cell? W _ (hcell 0 hn0), hcell⟩
theorem gPol : Tryd.prog.globalNamed "solvent/field.polynomials" = some 0 := by kernel_rfl
theorem tPol : (Tryd.prog.globals[0]?).map (·.type) = some 120 := by kernel_rfl
theorem dPol {H : Type} : (Rows.laid_solvent_field_polynomials : DataW H) = .agg (P17.map fun m => .lit (.int .i64 m)) := rfl
theorem of_laidf {W : World} (h : laidMetH Tryd.prog [("solvent/field.polynomials", Rows.laid_solvent_field_polynomials)] W) : Tabs W := by
  rw [MakeChecks.laidMetH_plain _ _ _ (by kernel_rfl)] at h
  obtain ⟨ps, ⟨g0, t0, cs0, f0, p0, q0, hg0, ht0, hv0, hd0, _, _⟩, _, _⟩ := h
  obtain rfl := Option.some.inj (gPol.symm.trans hg0)
  obtain rfl := Option.some.inj (tPol.symm.trans ht0)
  obtain ⟨a1, a2⟩ := tabl_of (n := 17) (by kernel_rfl) Tryd.underlying3 (by kernel_rfl) (by kernel_rfl) (by decide) (by rfl) gPol hv0 hd0 dPol
  exact ⟨a1, fun j hj => a2 j hj⟩
theorem door_metf (os : Os) (args : Array Value) : laidMetH Tryd.prog [("solvent/field.polynomials", Rows.laid_solvent_field_polynomials)] ((World.doorLaid Tryd.prog 400 os).forCall (fun _ _ => 0) ⟨#[], args, []⟩).memory :=
  laidMetH_of_parts3 (fuel := 8) (laidMet_of_run' 8 (by kernel_rfl) (by kernel_rfl)) (by kernel_rfl) (by kernel_rfl)
end

end Go.Proofs.YtklngodlijiccaaDoor
