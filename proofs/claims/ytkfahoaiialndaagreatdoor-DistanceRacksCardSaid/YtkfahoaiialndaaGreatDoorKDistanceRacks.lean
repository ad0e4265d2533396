/-
  The walk of the law: Racks does not depend on the names of the racks; merging two racks never increases it.
-/
import Derived.Test.YtkfahoaiialndaaGreatDoorDstL
import Derived.Test.YtkfahoaiialndaaGreatDoorDstX
namespace Go.Proofs.YtkfahoaiialndaaGreatDoor.distanceRacks
open Go.RowKit
set_option linter.unusedVariables false

/-- Two rows of the call's own. -/
structure O2 (w : World) (B : Nat) (v1 v2 : Value) (k1 k2 : Nat) (l1 l2 : List Int) : Prop where
  a : w.ownsRow B 3 1 v1 k1 (l1.map iv)
  b : w.ownsRow B 3 1 v2 k2 (l2.map iv)
  ap : Apart v1 v2
theorem O2.symm {w : World} {B : Nat} {v1 v2 : Value} {k1 k2 : Nat} {l1 l2 : List Int} (h : O2 w B v1 v2 k1 k2 l1 l2) : O2 w B v2 v1 k2 k1 l2 l1 := ⟨h.b, h.a, h.ap.symm⟩
theorem O2.fst {w w' : World} {B : Nat} {v1 v2 v1' : Value} {k1 k2 k1' : Nat} {l1 l2 l1' : List Int} (h : O2 w B v1 v2 k1 k2 l1 l2) {o : Obj} (hg : (w.alloc o).grownBy w' v1.ownBlock) (ho : w'.ownsRow B 3 1 v1' k1' (l1'.map iv)) (ha : v1'.ownBlock = v1.ownBlock ∨ v1'.ownBlock = some (w.alloc o).heap.size) : O2 w' B v1' v2 k1' k2 l1' l2 :=
  ⟨ho, (own_kept h.b (below_new w o)).kept hg h.ap.symm.kept, fun k hk hk2 => by
    rcases ha with e | e
    · exact h.ap k (e ▸ hk) hk2
    · rw [e] at hk
      injection hk with hk
      have h1 := (h.b.lt k hk2).2
      have h2 := (below_new w o).size
      omega⟩
def mrg (a b r : Int) : Int := if r = a then b else r
theorem racks_x {x : Cd} (hs9 : Sm9 x) (rows : List Int) (s a b : Int) : racksZ (dcX x) (okX x rows.length) (rows.map fun r => s - r) = racksZ (dcX x) (okX x rows.length) rows ∧ racksZ (dcX x) (okX x rows.length) (rows.map (mrg a b)) ≤ racksZ (dcX x) (okX x rows.length) rows := by
  cases hok : okX x rows.length with
  | true =>
    obtain ⟨m, n, hvc, hN, _⟩ := okX_vc hs9 hok
    have r : ∀ l, racksZ (dcX x) true l = (racksN (dcX x) l : Int) := fun l => if_pos rfl
    rw [r, r, r, racks_names (dcX x) rows (fun r => s - r) (fun a b h => by have h : s - a = s - b := h; omega)]
    have := racks_merge (dcd_x hvc) hN (mrg a b)
    omega
  | false =>
    have r : ∀ l, racksZ (dcX x) false l = -1 := fun l => if_neg (by decide)
    rw [r, r, r]
    omega

set_option maxHeartbeats 1600000 in
set_option maxRecDepth 100000 in
theorem walk (a0 : Cd) (A0 : Option Addr) (c0 : Nat) (B1 : Option Addr) (cb1 : Nat) (rows : List Int) (a2 : Int) (a3 : Int) (a4 : Int) (w : World) (x0 : CIn w a0 A0) (n0 : a0.name.length ≤ 9223372036854775807) (xr : Sl w w.heap.size B1 1 rows.length (rows.map iv)) (mr : rows.length ≤ cb1) (kr : cb1 ≤ maxLen) (w2 : -9223372036854775808 ≤ a2 ∧ a2 ≤ 9223372036854775807) (w3 : -9223372036854775808 ≤ a3 ∧ a3 ≤ 9223372036854775807) (w4 : -9223372036854775808 ≤ a4 ∧ a4 ≤ 9223372036854775807) (T1 : Tabs w) (pg : Pg) :
    Calls Tryz.prog 8 #[a0.v A0 c0, .slice B1 rows.length cb1, .int .i64 a2, .int .i64 a3, .int .i64 a4] w fun e w' => e = .returned (.bool true) ∧ Below w.heap.size w w' := by
  obtain ⟨W0, hW0⟩ : ∃ W, W = w.alloc (.cells (a0.cs A0 c0).toArray 24) := ⟨_, rfl⟩
  have hb0 : Below w.heap.size w W0 := by rw [hW0]; exact below_new w _
  have HB0 := hideIt hb0
  have HBC := hideIt (show BC W0 w.heap.size a0 A0 c0 by rw [hW0]; exact BC.new c0 x0)
  have HT := hideIt (T1.keep hb0)
  have HXR := hideIt ((xr.below hb0).wide hb0.size)
  have HWE := hideIt hW0
  have HPG := hideIt pg
  have HSA := hideIt (fun (W : World) (h : Below W0.heap.size W0 W) => sanity_any HPG.out W (HT.out.keep h))
  have HSM := hideIt (small9_any a0 A0 c0 W0 HBC.out.cin)
  have hnot := not_b
  have HNM := hideIt n0
  clear hW0 hb0 x0 xr T1 mr kr pg n0 w2 w3 w4
  by_cases hsm : sm9B a0 = true
  · rw [hsm] at HSM
    have HS9 := hideIt (sm9B_sm hsm)
    by_cases h12 : (rows.length : Int) > 12
    · have hg1 : binOp .gtr 3 (.int .i64 (rows.length : Int)) (.int .i64 12) = pure (.bool true) := by rw [binOp_gtr, decide_eq_true h12]
      clear hsm h12
      go_enter Tryz.func8, Tryz.ntmps8
      go_wp2_with (first | (go_at_call 9; rw [← HWE.out]; refine HSM.out.mono ?_; rintro e w1 ⟨rfl, hb⟩; have G1 := hideIt hb; clear hb HSM) | ((with_reducible refine at_load ?_); refine wpList_ldC (by kernel_rfl) (.tmp 5) rfl (p := w.heap.size) (c := c0) rfl (by first | exact HBX6.out | (rw [← HWE.out]; exact HBC.out.box)) ?_) | (go_at_call 10; refine (HSA.out _ G1.out).mono ?_; rintro e w9 ⟨rfl, hb⟩; have G9 := hideIt (G1.out.trans (hb.mono G1.out.size)); clear hb HSA))
      go_ret
      exact ⟨rfl, HB0.out.trans (G9.out.mono HB0.out.size)⟩
    · have hg1 : binOp .gtr 3 (.int .i64 (rows.length : Int)) (.int .i64 12) = pure (.bool false) := by rw [binOp_gtr, decide_eq_false h12]
      by_cases s1 : a2 < -1000
      · have hg2 : binOp .lss 3 (.int .i64 a2) (.int .i64 (-1000)) = pure (.bool true) := by rw [binOp_lss, decide_eq_true s1]
        clear hsm h12 s1
        go_enter Tryz.func8, Tryz.ntmps8
        go_wp2_with (first | (go_at_call 9; rw [← HWE.out]; refine HSM.out.mono ?_; rintro e w1 ⟨rfl, hb⟩; have G1 := hideIt hb; clear hb HSM) | ((with_reducible refine at_load ?_); refine wpList_ldC (by kernel_rfl) (.tmp 5) rfl (p := w.heap.size) (c := c0) rfl (by first | exact HBX6.out | (rw [← HWE.out]; exact HBC.out.box)) ?_) | (go_at_call 10; refine (HSA.out _ G1.out).mono ?_; rintro e w9 ⟨rfl, hb⟩; have G9 := hideIt (G1.out.trans (hb.mono G1.out.size)); clear hb HSA))
        go_ret
        exact ⟨rfl, HB0.out.trans (G9.out.mono HB0.out.size)⟩
      · have hg2 : binOp .lss 3 (.int .i64 a2) (.int .i64 (-1000)) = pure (.bool false) := by rw [binOp_lss, decide_eq_false s1]
        by_cases s2 : a2 > 1000
        · have hg3 : binOp .gtr 3 (.int .i64 a2) (.int .i64 1000) = pure (.bool true) := by rw [binOp_gtr, decide_eq_true s2]
          clear hsm h12 s1 s2
          go_enter Tryz.func8, Tryz.ntmps8
          go_wp2_with (first | (go_at_call 9; rw [← HWE.out]; refine HSM.out.mono ?_; rintro e w1 ⟨rfl, hb⟩; have G1 := hideIt hb; clear hb HSM) | ((with_reducible refine at_load ?_); refine wpList_ldC (by kernel_rfl) (.tmp 5) rfl (p := w.heap.size) (c := c0) rfl (by first | exact HBX6.out | (rw [← HWE.out]; exact HBC.out.box)) ?_) | (go_at_call 10; refine (HSA.out _ G1.out).mono ?_; rintro e w9 ⟨rfl, hb⟩; have G9 := hideIt (G1.out.trans (hb.mono G1.out.size)); clear hb HSA))
          go_ret
          exact ⟨rfl, HB0.out.trans (G9.out.mono HB0.out.size)⟩
        · have hg3 : binOp .gtr 3 (.int .i64 a2) (.int .i64 1000) = pure (.bool false) := by rw [binOp_gtr, decide_eq_false s2]
          have hr12 : rows.length ≤ 12 := by omega
          obtain ⟨t1, t2⟩ := racks_x HS9.out rows a2 a3 a4
          have HP1 := hideIt (fun (W : World) (h : Below W0.heap.size W0 W) (l : List Int) (hl : l.length = rows.length) (G : Option Addr) (cg : Nat) (hG : Sl W W.heap.size G 1 rows.length (l.map iv)) =>
            show Calls Tryz.prog 18 #[a0.v A0 c0, .slice G rows.length cg] W (fun e w' => e = .returned (.int .i64 (racksZ (dcX a0) (okX a0 rows.length) l)) ∧ Below W.heap.size W w') by
              have := HPG.out.racks a0 A0 c0 W (HT.out.keep h) (HBC.out.keep h).cin HNM.out HS9.out l G cg (by omega) (by rw [hl]; exact hG)
              rw [hl] at this
              exact this)
          have HR1 := hideIt (fun W h => HP1.out W h rows rfl B1 cb1 ((HXR.out.below h).wide h.size))
          have HR2 := hideIt (fun W h => HP1.out W h (rows.map fun r => a2 - r) (List.length_map _))
          have HR3 := hideIt (fun W h => HP1.out W h (rows.map (mrg a3 a4)) (List.length_map _))
          rw [t1] at HR2
          generalize racksZ (dcX a0) (okX a0 rows.length) rows = z at *
          generalize racksZ (dcX a0) (okX a0 rows.length) (rows.map (mrg a3 a4)) = z3 at *
          have e4 : binOp .eql 3 (.int .i64 z) (.int .i64 z) = pure (.bool true) := by rw [i_eql, decide_eq_true rfl]
          have e5 : binOp .leq 3 (.int .i64 z3) (.int .i64 z) = pure (.bool true) := by rw [binOp_leq, decide_eq_true t2]
          have HA2 := hideIt (show -1000 ≤ a2 ∧ a2 ≤ 1000 by omega)
          clear hsm h12 s1 s2 t1 t2 HPG HNM HS9 HT HP1
          go_enter Tryz.func8, Tryz.ntmps8
          go_wp2_with (first | (go_at_call 9; rw [← HWE.out]; refine HSM.out.mono ?_; rintro e w1 ⟨rfl, hb⟩; have G1 := hideIt hb; clear hb HSM) | ((with_reducible refine at_load ?_); refine wpList_ldC (by kernel_rfl) (.tmp 5) rfl (p := w.heap.size) (c := c0) rfl (by first | exact HBX6.out | (rw [← HWE.out]; exact HBC.out.box)) ?_))
          have HO1 := hideIt (show O2 w1 w1.heap.size (.slice none 0 0) (.slice none 0 0) 0 0 ((rows.take 0).map fun r => a2 - r) ((rows.take 0).map (mrg a3 a4)) from ⟨World.ownsRow_nil w1 _ _ 1, World.ownsRow_nil w1 _ _ 1, fun k hk => by cases hk⟩)
          go_loopg [12, 13, 14, 15] rows.length (fun gk s12 s13 s14 s15 wr => ∃ k : Nat, k + gk = rows.length ∧ s14 = .int .i64 (k : Int) ∧ Aside (O2 wr w1.heap.size s12 s13 k k ((rows.take k).map fun r => a2 - r) ((rows.take k).map (mrg a3 a4))) ∧ Aside (Below w1.heap.size w1 wr))
          case atStart => exact ⟨0, by omega, rfl, HO1.out, Below.refl _ _⟩
          case round =>
            obtain ⟨k, hk, rfl, HW, HL⟩ := hrel
            obtain ⟨w5, rfl⟩ : ∃ x, x = wr := ⟨wr, rfl⟩
            have G5 := hideIt (G1.out.trans (HL.out.mono G1.out.size))
            by_cases hlt : k < rows.length
            · have hki : (k : Int) < (rows.length : Int) := by omega
              have hin1 := inc_c 3 k (by omega)
              obtain ⟨b, o, hB1, hb, hc⟩ := HXR.out.num hlt
              have HTK := hideIt (take_snoc rows k hlt)
              have hk12 : k ≤ 12 := by omega
              generalize rows[k] = r at *
              have HCL := hideIt (fun (W : World) (h : Below W0.heap.size W0 W) => show W.cell? ⟨b, o + k, none⟩ = some (.int .i64 r) from (h.cell (p := ⟨b, o + k, none⟩) hb).trans hc)
              subst hB1
              have c5 := HCL.out _ G5.out
              clear hc hb hlt
              by_cases r1 : r < -1000
              · have g1 : binOp .lss 3 (.int .i64 r) (.int .i64 (-1000)) = pure (.bool true) := by rw [binOp_lss, decide_eq_true r1]
                clear r1
                go_wp2_with (first | (go_at_call 10; refine (HSA.out _ G5.out).mono ?_; rintro e w9 ⟨rfl, hb⟩; have G9 := hideIt (G5.out.trans (hb.mono G5.out.size)); clear hb HSA))
                go_ret
                exact ⟨rfl, HB0.out.trans (G9.out.mono HB0.out.size)⟩
              · have g1 : binOp .lss 3 (.int .i64 r) (.int .i64 (-1000)) = pure (.bool false) := by rw [binOp_lss, decide_eq_false r1]
                by_cases r2 : r > 1000
                · have g2 : binOp .gtr 3 (.int .i64 r) (.int .i64 1000) = pure (.bool true) := by rw [binOp_gtr, decide_eq_true r2]
                  clear r1 r2
                  go_wp2_with (first | (go_at_call 10; refine (HSA.out _ G5.out).mono ?_; rintro e w9 ⟨rfl, hb⟩; have G9 := hideIt (G5.out.trans (hb.mono G5.out.size)); clear hb HSA))
                  go_ret
                  exact ⟨rfl, HB0.out.trans (G9.out.mono HB0.out.size)⟩
                · have g2 : binOp .gtr 3 (.int .i64 r) (.int .i64 1000) = pure (.bool false) := by rw [binOp_gtr, decide_eq_false r2]
                  have m2 : binOp .sub 3 (.int .i64 a2) (.int .i64 r) = pure (.int .i64 (a2 - r)) := by
                    show pure (Value.int .i64 (IntKind.i64.wrap (a2 - r))) = _
                    have := HA2.out
                    rw [IntWalk.i64_in _ (by omega)]
                  have heq := i_eql 3 .i64 r a3
                  have HE1 := hideIt (show ((rows.take k).map fun r => a2 - r) ++ [a2 - r] = (rows.take (k + 1)).map fun r => a2 - r by rw [HTK.out, List.map_append]; rfl)
                  have HE2 := hideIt (show ((rows.take k).map (mrg a3 a4)) ++ [mrg a3 a4 r] = (rows.take (k + 1)).map (mrg a3 a4) by rw [HTK.out, List.map_append]; rfl)
                  clear r1 r2
                  obtain ⟨y, hy⟩ : ∃ y, y = a2 - r := ⟨_, rfl⟩
                  rw [← hy] at m2 HE1
                  clear hy
                  by_cases hq : r = a3
                  · rw [decide_eq_true hq] at heq
                    rw [show mrg a3 a4 r = a4 from if_pos hq] at HE2
                    clear hq
                    have HL6 := hideIt HL.out
                    have HW6 := hideIt HW.out
                    go_wp2_with (first | ((with_reducible refine at_append ?_); refine wpList_apI (y := y) (n := k) (us := (rows.take k).map fun r => a2 - r) rfl (.tmp 54) (.tmp 61) rfl rfl HW6.out.a rfl (by omega) HL6.out.size ?_; intro v7 w7 HO7 HG7 HA7 HB7; have HW7 := hideIt (HW6.out.fst HG7.out HO7.out HA7.out); have HL7 := hideIt (HL6.out.trans HB7.out); have c7 := HCL.out _ (G1.out.trans (HL7.out.mono G1.out.size))) | ((with_reducible refine at_append ?_); refine wpList_apI (y := a4) (n := k) (us := (rows.take k).map (mrg a3 a4)) rfl (.tmp 71) (.tmp 73) rfl rfl HW7.out.b rfl (by omega) HL7.out.size ?_; intro v8 w8 HO8 HG8 HA8 HB8; have HW8 := hideIt (HW7.out.symm.fst HG8.out HO8.out HA8.out).symm; have HL8 := hideIt (HL7.out.trans HB8.out)))
                    go_roundg (gk - 1)
                    case measure => omega
                    case rel => exact ⟨k + 1, by omega, by go_num, by have := HW8.out; rwa [HE1.out, HE2.out] at this, HL8.out⟩
                  · rw [decide_eq_false hq] at heq
                    rw [show mrg a3 a4 r = r from if_neg hq] at HE2
                    clear hq
                    have HL6 := hideIt HL.out
                    have HW6 := hideIt HW.out
                    go_wp2_with (first | ((with_reducible refine at_append ?_); refine wpList_apI (y := y) (n := k) (us := (rows.take k).map fun r => a2 - r) rfl (.tmp 54) (.tmp 61) rfl rfl HW6.out.a rfl (by omega) HL6.out.size ?_; intro v7 w7 HO7 HG7 HA7 HB7; have HW7 := hideIt (HW6.out.fst HG7.out HO7.out HA7.out); have HL7 := hideIt (HL6.out.trans HB7.out); have c7 := HCL.out _ (G1.out.trans (HL7.out.mono G1.out.size))) | ((with_reducible refine at_append ?_); refine wpList_apI (y := r) (n := k) (us := (rows.take k).map (mrg a3 a4)) rfl (.tmp 71) (.tmp 73) rfl rfl HW7.out.b rfl (by omega) HL7.out.size ?_; intro v8 w8 HO8 HG8 HA8 HB8; have HW8 := hideIt (HW7.out.symm.fst HG8.out HO8.out HA8.out).symm; have HL8 := hideIt (HL7.out.trans HB8.out)))
                    go_roundg (gk - 1)
                    case measure => omega
                    case rel => exact ⟨k + 1, by omega, by go_num, by have := HW8.out; rwa [HE1.out, HE2.out] at this, HL8.out⟩
            · have hki : ¬ (k : Int) < (rows.length : Int) := by omega
              have hke : k = rows.length := by omega
              have hw := HW.out
              rw [List.take_of_length_le (by omega), hke] at hw
              rw [hke] at hki HW ⊢
              obtain ⟨AL, cL, hvl, _, _⟩ := own_form hw.a
              obtain ⟨AM, cM, hvm, _, _⟩ := own_form hw.b
              subst hvl hvm
              have HSL := hideIt (fun (W : World) (h : Below w5.heap.size w5 W) => ((Sl.of_own hw.a).below h).wide h.size)
              have HSM2 := hideIt (fun (W : World) (h : Below w5.heap.size w5 W) => ((Sl.of_own hw.b).below h).wide h.size)
              have HBX6 := hideIt (HBC.out.keep G5.out).box
              clear hlt hw HW hke
              go_wp2_with (first
                | (go_at_call 18; refine (HR1.out _ G5.out).mono ?_; rintro e w7 ⟨rfl, hb⟩; have L7 := hideIt hb; have G7 := hideIt (G5.out.trans (hb.mono G5.out.size)); clear hb HR1)
                | (go_at_call 10; refine (HSA.out _ G7.out).mono ?_; rintro e w9 ⟨rfl, hb⟩; have L9 := hideIt (L7.out.trans (hb.mono L7.out.size)); have G9 := hideIt (G7.out.trans (hb.mono G7.out.size)); clear hb HSA)
                | (go_at_call 18; refine (HR2.out _ G9.out _ _ (HSL.out _ L9.out)).mono ?_; rintro e w10 ⟨rfl, hb⟩; have L10 := hideIt (L9.out.trans (hb.mono L9.out.size)); have K5 := hideIt (G9.out.trans (hb.mono G9.out.size)); clear hb HR2)
                | (go_at_call 18; refine (HR3.out _ K5.out _ _ (HSM2.out _ L10.out)).mono ?_; rintro e w11 ⟨rfl, hb⟩; have K6 := hideIt (K5.out.trans (hb.mono K5.out.size)); clear hb HR3)
                | ((with_reducible refine at_load ?_); refine wpList_ldC (by kernel_rfl) (.tmp 5) rfl (p := w.heap.size) (c := c0) rfl (by first | exact (HBC.out.keep K5.out).box | exact (HBC.out.keep G9.out).box | exact HBX6.out | (rw [← HWE.out]; exact HBC.out.box)) ?_))
              go_ret
              exact ⟨rfl, HB0.out.trans (K6.out.mono HB0.out.size)⟩
  · have hf : sm9B a0 = false := Bool.eq_false_iff.2 hsm
    rw [hf] at HSM
    clear hsm hf
    go_enter Tryz.func8, Tryz.ntmps8
    go_wp2_with (first | (go_at_call 9; rw [← HWE.out]; refine HSM.out.mono ?_; rintro e w1 ⟨rfl, hb⟩; have G1 := hideIt hb; clear hb HSM) | ((with_reducible refine at_load ?_); refine wpList_ldC (by kernel_rfl) (.tmp 5) rfl (p := w.heap.size) (c := c0) rfl (by first | exact HBX6.out | (rw [← HWE.out]; exact HBC.out.box)) ?_) | (go_at_call 10; refine (HSA.out _ G1.out).mono ?_; rintro e w9 ⟨rfl, hb⟩; have G9 := hideIt (G1.out.trans (hb.mono G1.out.size)); clear hb HSA))
    go_ret
    exact ⟨rfl, HB0.out.trans (G9.out.mono HB0.out.size)⟩

end Go.Proofs.YtkfahoaiialndaaGreatDoor.distanceRacks
