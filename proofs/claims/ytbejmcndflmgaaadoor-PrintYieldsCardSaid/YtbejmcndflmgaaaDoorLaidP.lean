/-
  What the listed tables of the fingerprint give the walks.
-/
import Derived.Test.YtbejmcndflmgaaaDoorRows
import Derived.Test.YtbejmcndflmgaaaDoorPrtW
import Derived.ProofKit
import Derived.LaidMore
import Derived.OpenShut
import Derived.Stop.Joined
namespace Go.Proofs.YtbejmcndflmgaaaDoor
open Go.ChangeShapes Go.WideShapes Go.ChangeAt Go.RowKit
set_option linter.unusedVariables false

theorem tabl_of {H : Type} {enc : TypeId × Value → H} {W : World} {name : String} {g : Nat} {cs : Array Value} {fuel : Nat} {d : DataW H} {q : List MemPlace} {held : Bool} {spare : Nat → Bool} {T e : TypeId} {n : Nat} {k : IntKind} {ns : List Int}
    (hT : Tryd.prog.underlying T = some (.array n e)) (he : Tryd.prog.underlying e = some (.int k)) (hcn : Tryd.prog.cellsOf T = n) (c1 : Tryd.prog.cellsOf e = 1) (hn0 : 0 < n) (hln : ns.length = n)
    (hg : Tryd.prog.globalNamed name = some g) (hv : W.var? Tryd.prog name = some cs) (hd : DataW.trod enc Tryd.prog W 0 spare held fuel T cs.toList = some (d, q)) (hdd : d = .agg (ns.map fun m => .lit (.int k m))) :
    g < W.heap.size ∧ ∀ j, j < n → W.cell? ⟨g, j, none⟩ = some (.int k (ns.getD j 0)) := by
  obtain ⟨xs, m, _, hx, hlen, hn, hel⟩ := DataW.trod_array hT hd
  rw [c1] at hel
  have hcl : cs.toList.length = n := by rw [hlen]; exact hcn
  simp only [Prod.mk.injEq] at hx
  have hcell : ∀ j, j < n → W.cell? ⟨g, j, none⟩ = some (.int k (ns.getD j 0)) := by
    intro j hj
    rw [World.var?_cell hg hv j]
    have h7 := hel j hj
    rw [Nat.mul_one, List.getElem?_eq_getElem (by omega)] at h7
    obtain ⟨z, hz, hx1, _⟩ := DataW.trod_int he (show DataW.trod _ Tryd.prog W 0 _ held m e _ = some xs[j] from h7)
    rw [List.drop_eq_getElem_cons (by omega), List.take_succ_cons, List.take_zero] at hz
    injection hz with hz _
    have h8 : (xs.map (·.1))[j]? = some xs[j].1 := by rw [List.getElem?_map, List.getElem?_eq_getElem (by omega)]; rfl
    have h9 := hx.1.symm.trans hdd
    injection h9 with h9
    rw [h9, List.getElem?_map] at h8
    have hk : ns[j]? = some (ns.getD j 0) := by
      rw [List.getD_eq_getElem?_getD, List.getElem?_eq_getElem (by omega)]; rfl
    rw [hk, hx1] at h8
    simp only [Option.map_some, Option.some.injEq, DataW.lit.injEq, Lit.int.injEq, true_and] at h8
    have h10 : cs[j]? = some cs.toList[j] := by rw [← Array.getElem?_toList, List.getElem?_eq_getElem (by omega)]
    rw [h10, hz, ← h8]
  exact ⟨World.block_lt_of_cell? W _ (hcell 0 hn0), hcell⟩

theorem gRem : Tryd.prog.globalNamed "solvent/crc.remainders" = some 1 := by kernel_rfl
theorem gEx : Tryd.prog.globalNamed "solvent/fingerprint.exponents" = some 0 := by kernel_rfl
theorem tRem : (Tryd.prog.globals[1]?).map (·.type) = some 48 := by kernel_rfl
theorem tEx : (Tryd.prog.globals[0]?).map (·.type) = some 45 := by kernel_rfl
theorem dRem {H : Type} : (Rows.laid_solvent_crc_remainders : DataW H) = .agg ((T16.map fun x => (x.toNat : Int)).map fun m => .lit (.int .u32 m)) := rfl
theorem dEx {H : Type} : (Rows.laid_solvent_fingerprint_exponents : DataW H) = .agg (ex18.map fun m => .lit (.int .i64 m)) := rfl
theorem of_laidp {W : World} (h : laidMetH Tryd.prog [("solvent/crc.remainders", Rows.laid_solvent_crc_remainders), ("solvent/fingerprint.exponents", Rows.laid_solvent_fingerprint_exponents)] W) : Tabs W := by
  rw [MakeChecks.laidMetH_plain _ _ _ (by kernel_rfl)] at h
  obtain ⟨ps, ⟨g0, t0, cs0, f0, p0, q0, hg0, ht0, hv0, hd0, ⟨g1, t1, cs1, f1, p1, q1, hg1, ht1, hv1, hd1, _, _⟩, _⟩, _, _⟩ := h
  obtain rfl := Option.some.inj (gRem.symm.trans hg0)
  obtain rfl := Option.some.inj (gEx.symm.trans hg1)
  obtain rfl := Option.some.inj (tRem.symm.trans ht0)
  obtain rfl := Option.some.inj (tEx.symm.trans ht1)
  obtain ⟨b1, b2⟩ := tabl_of (n := 16) (by kernel_rfl) Tryd.underlying27 (by kernel_rfl) (by kernel_rfl) (by decide) (by rfl) gRem hv0 hd0 dRem
  obtain ⟨a1, a2⟩ := tabl_of (n := 18) (by kernel_rfl) Tryd.underlying3 (by kernel_rfl) (by kernel_rfl) (by decide) (by rfl) gEx hv1 hd1 dEx
  refine ⟨b1, a1, fun j hj => ?_, fun j hj => a2 j hj⟩
  rw [b2 j hj]
  have : ∀ j : Fin 16, (T16.map fun x => (x.toNat : Int)).getD j.val 0 = ((T16.getD j.val 0).toNat : Int) := by decide +kernel
  rw [this ⟨j, hj⟩]
  rfl
theorem door_metp (os : Os) (args : Array Value) : laidMetH Tryd.prog [("solvent/crc.remainders", Rows.laid_solvent_crc_remainders), ("solvent/fingerprint.exponents", Rows.laid_solvent_fingerprint_exponents)] ((World.doorLaid Tryd.prog 400 os).forCall (fun _ _ => 0) ⟨#[], args, []⟩).memory :=
  laidMetH_of_parts3 (fuel := 8) (laidMet_of_run' 8 (by kernel_rfl) (by kernel_rfl)) (by kernel_rfl) (by kernel_rfl)

end Go.Proofs.YtbejmcndflmgaaaDoor
