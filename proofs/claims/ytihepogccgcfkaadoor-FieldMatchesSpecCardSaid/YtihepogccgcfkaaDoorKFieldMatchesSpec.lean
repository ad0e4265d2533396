/-
  The walk of the law: For every m and all integers, Valid, Add, Mul, Inv, Div and Pow return what the specification defines.
-/
import Derived.Test.YtihepogccgcfkaaDoorFOk
namespace Go.Proofs.YtihepogccgcfkaaDoor.fieldMatchesSpec
open Go.RowKit
set_option linter.unusedVariables false

set_option maxHeartbeats 1000000 in
set_option maxRecDepth 100000 in
theorem walk (a0 : Int) (a1 : Int) (a2 : Int) (w : World) (w0 : -9223372036854775808 ≤ a0 ∧ a0 ≤ 9223372036854775807) (w1 : -9223372036854775808 ≤ a1 ∧ a1 ≤ 9223372036854775807) (w2 : -9223372036854775808 ≤ a2 ∧ a2 ≤ 9223372036854775807) (T1 : Tabs w) :
    Calls Tryd.prog 3 #[.int .i64 a0, .int .i64 a1, .int .i64 a2] w fun e w' => e = .returned (.bool true) ∧ Below w.heap.size w w' := by
  have HS0 := hideIt (sanity_any w T1)
  have HA := hideIt (fun W (hW : Below w.heap.size w W) => add_b T1 hW a0 a1 a2)
  have RA := hideIt (fun W => radd_any a0 a1 a2 W)
  have HM := hideIt (fun W (hW : Below w.heap.size w W) => mul_b T1 hW a0 a1 a2)
  have RM := hideIt (fun W => rmul_any a0 a1 a2 W)
  have HI := hideIt (fun W (hW : Below w.heap.size w W) => inv_b T1 hW a0 a1)
  have RI := hideIt (fun W => rinv_any a0 a1 W)
  have HD := hideIt (fun W (hW : Below w.heap.size w W) => div_b T1 hW a0 a1 a2)
  have RD := hideIt (fun W => rdiv_any a0 a1 a2 W)
  have HP := hideIt (fun W (hW : Below w.heap.size w W) => pow_b T1 hW a0 a1 a2 w2)
  have RP := hideIt (fun W => rpow_any a0 a1 a2 w2 W)
  have HV := hideIt (fun W (hW : Below w.heap.size w W) => valid_b T1 hW a0 a1)
  have RV := hideIt (fun W => rvalid_any a0 a1 W)
  unfold nerr at RA RM RI RD RP
  clear T1
  generalize (addR a0 a1 a2).1 = x1 at *
  generalize (addR a0 a1 a2).2 = y1 at *
  generalize (mlR a0 a1 a2).1 = x2 at *
  generalize (mlR a0 a1 a2).2 = y2 at *
  generalize (invR a0 a1).1 = x3 at *
  generalize (invR a0 a1).2 = y3 at *
  generalize (divR a0 a1 a2).1 = x4 at *
  generalize (divR a0 a1 a2).2 = y4 at *
  generalize (powR a0 a1 a2).1 = x5 at *
  generalize (powR a0 a1 a2).2 = y5 at *
  have q1 := int_eqlT 3 (a := (x1 : Int)) rfl
  have q2 := int_eqlT 3 (a := (x2 : Int)) rfl
  have q3 := int_eqlT 3 (a := (x3 : Int)) rfl
  have q4 := int_eqlT 3 (a := (x4 : Int)) rfl
  have q5 := int_eqlT 3 (a := (x5 : Int)) rfl
  have p1 := int_eqlT 23 (a := y1) rfl
  have p2 := int_eqlT 23 (a := y2) rfl
  have p3 := int_eqlT 23 (a := y3) rfl
  have p4 := int_eqlT 23 (a := y4) rfl
  have p5 := int_eqlT 23 (a := y5) rfl
  cases hv : vd a0 a1
  · rw [hv] at HV RV
    clear hv
    go_enter Tryd.func3, Tryd.ntmps3
    go_wp2_with (first
      | (go_at_call 9; refine HS0.out.mono ?_; rintro e w' ⟨rfl, hb⟩; have HB := hideIt hb; clear hb HS0)
      | (go_at_call 10; refine (HA.out _ HB.out).mono ?_; rintro e w' ⟨rfl, hb⟩; clear HB HA; have HB := hideIt hb; clear hb)
      | (go_at_call 11; refine (RA.out _).mono ?_; rintro e w' ⟨rfl, rfl⟩; clear RA)
      | (go_at_call 12; refine (HM.out _ HB.out).mono ?_; rintro e w' ⟨rfl, hb⟩; clear HB HM; have HB := hideIt hb; clear hb)
      | (go_at_call 13; refine (RM.out _).mono ?_; rintro e w' ⟨rfl, rfl⟩; clear RM)
      | (go_at_call 14; refine (HI.out _ HB.out).mono ?_; rintro e w' ⟨rfl, hb⟩; clear HB HI; have HB := hideIt hb; clear hb)
      | (go_at_call 15; refine (RI.out _).mono ?_; rintro e w' ⟨rfl, rfl⟩; clear RI)
      | (go_at_call 16; refine (HD.out _ HB.out).mono ?_; rintro e w' ⟨rfl, hb⟩; clear HB HD; have HB := hideIt hb; clear hb)
      | (go_at_call 17; refine (RD.out _).mono ?_; rintro e w' ⟨rfl, rfl⟩; clear RD)
      | (go_at_call 18; refine (HP.out _ HB.out).mono ?_; rintro e w' ⟨rfl, hb⟩; clear HB HP; have HB := hideIt hb; clear hb)
      | (go_at_call 19; refine (RP.out _).mono ?_; rintro e w' ⟨rfl, rfl⟩; clear RP)
      | (go_at_call 20; refine (HV.out _ HB.out).mono ?_; rintro e w' ⟨rfl, rfl⟩; clear HV)
      | (go_at_call 21; refine (RV.out _).mono ?_; rintro e w' ⟨rfl, rfl⟩; clear RV))
    go_ret
    exact ⟨rfl, HB.out⟩
  · rw [hv] at HV RV
    clear hv
    go_enter Tryd.func3, Tryd.ntmps3
    go_wp2_with (first
      | (go_at_call 9; refine HS0.out.mono ?_; rintro e w' ⟨rfl, hb⟩; have HB := hideIt hb; clear hb HS0)
      | (go_at_call 10; refine (HA.out _ HB.out).mono ?_; rintro e w' ⟨rfl, hb⟩; clear HB HA; have HB := hideIt hb; clear hb)
      | (go_at_call 11; refine (RA.out _).mono ?_; rintro e w' ⟨rfl, rfl⟩; clear RA)
      | (go_at_call 12; refine (HM.out _ HB.out).mono ?_; rintro e w' ⟨rfl, hb⟩; clear HB HM; have HB := hideIt hb; clear hb)
      | (go_at_call 13; refine (RM.out _).mono ?_; rintro e w' ⟨rfl, rfl⟩; clear RM)
      | (go_at_call 14; refine (HI.out _ HB.out).mono ?_; rintro e w' ⟨rfl, hb⟩; clear HB HI; have HB := hideIt hb; clear hb)
      | (go_at_call 15; refine (RI.out _).mono ?_; rintro e w' ⟨rfl, rfl⟩; clear RI)
      | (go_at_call 16; refine (HD.out _ HB.out).mono ?_; rintro e w' ⟨rfl, hb⟩; clear HB HD; have HB := hideIt hb; clear hb)
      | (go_at_call 17; refine (RD.out _).mono ?_; rintro e w' ⟨rfl, rfl⟩; clear RD)
      | (go_at_call 18; refine (HP.out _ HB.out).mono ?_; rintro e w' ⟨rfl, hb⟩; clear HB HP; have HB := hideIt hb; clear hb)
      | (go_at_call 19; refine (RP.out _).mono ?_; rintro e w' ⟨rfl, rfl⟩; clear RP)
      | (go_at_call 20; refine (HV.out _ HB.out).mono ?_; rintro e w' ⟨rfl, rfl⟩; clear HV)
      | (go_at_call 21; refine (RV.out _).mono ?_; rintro e w' ⟨rfl, rfl⟩; clear RV))
    go_ret
    exact ⟨rfl, HB.out⟩

end Go.Proofs.YtihepogccgcfkaaDoor.fieldMatchesSpec
