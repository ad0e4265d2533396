/-
  What the listed tables give the walks.
-/
import Derived.Test.YtkjnimcapjjfdaaDoorRows
import Derived.Test.YtkjnimcapjjfdaaDoorRSum
import Derived.ProofKit
import Derived.LaidMore
import Derived.OpenShut
import Derived.Stop.Joined
namespace Go.Proofs.YtkjnimcapjjfdaaDoor
open Go.ChangeShapes Go.WideShapes Go.ChangeAt Go.RowKit
set_option linter.unusedVariables false

theorem tabl_of {H : Type} {enc : TypeId × Value → H} {W : World} {n : String} {g : Nat} {cs : Array Value} {fuel : Nat} {d : DataW H} {q : List MemPlace} {held : Bool} {spare : Nat → Bool}
    (hg : Tryd.prog.globalNamed n = some g) (hv : W.var? Tryd.prog n = some cs) (hd : DataW.trod enc Tryd.prog W 0 spare held fuel 66 cs.toList = some (d, q)) (hdd : d = .agg (kk.map fun k => .lit (.int .u32 (k.toNat : Int)))) : Tab W g := by
  have c1 : Tryd.prog.cellsOf 60 = 1 := by kernel_rfl
  obtain ⟨xs, m, _, hx, hlen, hn, hel⟩ := DataW.trod_array (n := 64) (e := 60) (by kernel_rfl) hd
  rw [c1] at hel
  have hcl : cs.toList.length = 64 := by rw [hlen]; kernel_rfl
  simp only [Prod.mk.injEq] at hx
  have hcell : ∀ j, j < 64 → W.cell? ⟨g, j, none⟩ = some (wv (kk.getD j 0)) := by
    intro j hj
    rw [World.var?_cell hg hv j]
    have h7 := hel j hj
    rw [Nat.mul_one, List.getElem?_eq_getElem (by omega)] at h7
    obtain ⟨z, hz, hx1, _⟩ := DataW.trod_int Tryd.underlying60 (show DataW.trod _ Tryd.prog W 0 _ held m 60 _ = some xs[j] from h7)
    rw [List.drop_eq_getElem_cons (by omega), List.take_succ_cons, List.take_zero] at hz
    injection hz with hz _
    have h8 : (xs.map (·.1))[j]? = some xs[j].1 := by rw [List.getElem?_map, List.getElem?_eq_getElem (by omega)]; rfl
    have h9 := hx.1.symm.trans hdd
    injection h9 with h9
    rw [h9, List.getElem?_map] at h8
    have hk : kk[j]? = some (kk.getD j 0) := by
      rw [List.getD_eq_getElem?_getD, List.getElem?_eq_getElem (by rw [kk_len]; exact hj)]; rfl
    rw [hk, hx1] at h8
    simp only [Option.map_some, Option.some.injEq, DataW.lit.injEq, Lit.int.injEq, true_and] at h8
    have h10 : cs[j]? = some cs.toList[j] := by rw [← Array.getElem?_toList, List.getElem?_eq_getElem (by omega)]
    rw [h10, hz]
    unfold wv
    rw [← h8]
  refine ⟨?_, hcell⟩
  have h0 := hcell 0 (by omega)
  exact World.block_lt_of_cell? W _ h0

theorem gConst : Tryd.prog.globalNamed "solvent/solventref02.constants" = some 0 := by kernel_rfl
theorem gRounds : Tryd.prog.globalNamed "solvent/digest.rounds" = some 1 := by kernel_rfl
theorem tConst : (Tryd.prog.globals[0]?).map (·.type) = some 66 := by kernel_rfl
theorem tRounds : (Tryd.prog.globals[1]?).map (·.type) = some 66 := by kernel_rfl
theorem dConst {H : Type} : (Rows.laid_solvent_solventref02_constants : DataW H) = .agg (kk.map fun k => .lit (.int .u32 (k.toNat : Int))) := rfl
theorem dRounds {H : Type} : (Rows.laid_solvent_digest_rounds : DataW H) = .agg (kk.map fun k => .lit (.int .u32 (k.toNat : Int))) := rfl
theorem of_laid2 {W : World} (h : laidMetH Tryd.prog [("solvent/solventref02.constants", Rows.laid_solvent_solventref02_constants), ("solvent/digest.rounds", Rows.laid_solvent_digest_rounds)] W) : Tab W 0 ∧ Tab W 1 := by
  rw [MakeChecks.laidMetH_plain _ _ _ (by kernel_rfl)] at h
  obtain ⟨ps, ⟨g0, t0, cs0, f0, p0, q0, hg0, ht0, hv0, hd0, ⟨g1, t1, cs1, f1, p1, q1, hg1, ht1, hv1, hd1, _, _⟩, _⟩, _, _⟩ := h
  obtain rfl := Option.some.inj (gConst.symm.trans hg0)
  obtain rfl := Option.some.inj (gRounds.symm.trans hg1)
  obtain rfl := Option.some.inj (tConst.symm.trans ht0)
  obtain rfl := Option.some.inj (tRounds.symm.trans ht1)
  exact ⟨tabl_of gConst hv0 hd0 dConst, tabl_of gRounds hv1 hd1 dRounds⟩
theorem of_laid1 {W : World} (h : laidMetH Tryd.prog [("solvent/digest.rounds", Rows.laid_solvent_digest_rounds)] W) : Tab W 1 := by
  rw [MakeChecks.laidMetH_plain _ _ _ (by kernel_rfl)] at h
  obtain ⟨ps, ⟨g1, t1, cs1, f1, p1, q1, hg1, ht1, hv1, hd1, _, _⟩, _, _⟩ := h
  obtain rfl := Option.some.inj (gRounds.symm.trans hg1)
  obtain rfl := Option.some.inj (tRounds.symm.trans ht1)
  exact tabl_of gRounds hv1 hd1 dRounds
theorem door_met2 (os : Os) (args : Array Value) : laidMetH Tryd.prog [("solvent/solventref02.constants", Rows.laid_solvent_solventref02_constants), ("solvent/digest.rounds", Rows.laid_solvent_digest_rounds)] ((World.doorLaid Tryd.prog 400 os).forCall (fun _ _ => 0) ⟨#[], args, []⟩).memory :=
  laidMetH_of_parts3 (fuel := 8) (laidMet_of_run' 8 (by kernel_rfl) (by kernel_rfl)) (by kernel_rfl) (by kernel_rfl)
theorem door_met1 (os : Os) (args : Array Value) : laidMetH Tryd.prog [("solvent/digest.rounds", Rows.laid_solvent_digest_rounds)] ((World.doorLaid Tryd.prog 400 os).forCall (fun _ _ => 0) ⟨#[], args, []⟩).memory :=
  laidMetH_of_parts3 (fuel := 8) (laidMet_of_run' 8 (by kernel_rfl) (by kernel_rfl)) (by kernel_rfl) (by kernel_rfl)

end Go.Proofs.YtkjnimcapjjfdaaDoor
