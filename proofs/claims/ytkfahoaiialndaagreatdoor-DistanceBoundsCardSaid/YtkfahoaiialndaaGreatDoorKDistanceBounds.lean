/-
  The walk of the law: Losses lies from -1 to the smaller one of 4 and the number of parity units; racks of one's own and one rack.
-/
import Derived.Test.YtkfahoaiialndaaGreatDoorDstL
import Derived.Test.YtkfahoaiialndaaGreatDoorDstX
namespace Go.Proofs.YtkfahoaiialndaaGreatDoor.distanceBounds
open Go.RowKit
set_option linter.unusedVariables false

theorem run_min2 {P : Program} {w : World} (ts : Array TypeId) (t : TypeId) (x y : Int) : (Builtin.min_ ts t #[.int .i64 x, .int .i64 y]).run P w = .ok (.int .i64 (min x y)) w := by
  rw [run_min_int2]
  congr 2
  by_cases h : y < x
  · rw [if_pos h, Int.min_eq_right (by omega)]
  · rw [if_neg h, Int.min_eq_left (by omega)]
attribute [local go_sem high] run_min2
/-- Two rows of the call's own. -/
structure O2 (w : World) (B : Nat) (v1 v2 : Value) (k1 k2 : Nat) (l1 l2 : List Int) : Prop where
  a : w.ownsRow B 3 1 v1 k1 (l1.map iv)
  b : w.ownsRow B 3 1 v2 k2 (l2.map iv)
  ap : Apart v1 v2
theorem O2.symm {w : World} {B : Nat} {v1 v2 : Value} {k1 k2 : Nat} {l1 l2 : List Int} (h : O2 w B v1 v2 k1 k2 l1 l2) : O2 w B v2 v1 k2 k1 l2 l1 := ⟨h.b, h.a, h.ap.symm⟩
theorem O2.fst {w w' : World} {B : Nat} {v1 v2 v1' : Value} {k1 k2 k1' : Nat} {l1 l2 l1' : List Int} (h : O2 w B v1 v2 k1 k2 l1 l2) {o : Obj} (hg : (w.alloc o).grownBy w' v1.ownBlock) (ho : w'.ownsRow B 3 1 v1' k1' (l1'.map iv)) (ha : v1'.ownBlock = v1.ownBlock ∨ v1'.ownBlock = some (w.alloc o).heap.size) : O2 w' B v1' v2 k1' k2 l1' l2 :=
  ⟨ho, (own_kept h.b (below_new w o)).kept hg h.ap.symm.kept, fun k hk hk2 => by
    rcases ha with e | e
    · exact h.ap k (e ▸ hk) hk2
    · rw [e] at hk
      injection hk with hk
      have h1 := (h.b.lt k hk2).2
      have h2 := (below_new w o).size
      omega⟩
def ownL (k : Nat) : List Int := (List.range k).map fun i : Nat => 7 * (i : Int) - 3
theorem ownL_len (k : Nat) : (ownL k).length = k := by unfold ownL; simp
theorem ownL_snoc (k : Nat) : ownL k ++ [7 * (k : Int) - 3] = ownL (k + 1) := by unfold ownL; rw [List.range_succ, List.map_append]; rfl
theorem ownL_nd : ∀ k, (ownL k).Nodup
  | 0 => List.nodup_nil
  | k + 1 => by
    rw [← ownL_snoc, nodup_snoc]
    refine ⟨ownL_nd k, fun h => ?_⟩
    unfold ownL at h
    obtain ⟨i, hi, e⟩ := List.mem_map.1 h
    have := List.mem_range.1 hi
    omega
theorem bounds_x {x : Cd} (hs9 : Sm9 x) : -1 ≤ leftZ (dcX x) (okX x (wdN x)) (List.replicate (wdN x) true) ∧ leftZ (dcX x) (okX x (wdN x)) (List.replicate (wdN x) true) ≤ 4 ∧ leftZ (dcX x) (okX x (wdN x)) (List.replicate (wdN x) true) ≤ (x.par.length : Int)
    ∧ racksZ (dcX x) (okX x (wdN x)) (ownL (wdN x)) = leftZ (dcX x) (okX x (wdN x)) (List.replicate (wdN x) true) ∧ racksZ (dcX x) (okX x (wdN x)) (List.replicate (wdN x) 5) = min (leftZ (dcX x) (okX x (wdN x)) (List.replicate (wdN x) true)) 0 := by
  cases hok : okX x (wdN x) with
  | true =>
    obtain ⟨m, n, hvc, hN, _⟩ := okX_vc hs9 hok
    have hall := dcX_all hvc
    rw [← hN] at hall
    have hD := dcd_x hvc
    rw [← hN] at hD
    have hpos := hvc.pos
    have e : leftZ (dcX x) true (List.replicate (wdN x) true) = (leftN (dcX x) (List.replicate (wdN x) true) : Int) := if_pos ⟨rfl, hall⟩
    have b1 := (left_le (dc := dcX x) (hs := List.replicate (wdN x) true)).1
    have b2 := bounds hD hN hall
    have b3 := racks_own (dcX x) (ownL_len (wdN x)) (ownL_nd _) hall
    have b4 := racks_one hD (by omega) 5
    have r1 : racksZ (dcX x) true (ownL (wdN x)) = (racksN (dcX x) (ownL (wdN x)) : Int) := if_pos rfl
    have r2 : racksZ (dcX x) true (List.replicate (wdN x) 5) = (racksN (dcX x) (List.replicate (wdN x) 5) : Int) := if_pos rfl
    rw [r1, r2, e, b3, b4]
    refine ⟨by omega, by omega, by omega, rfl, ?_⟩
    rw [Int.min_eq_right (by omega)]; rfl
  | false =>
    have e : leftZ (dcX x) false (List.replicate (wdN x) true) = -1 := if_neg fun h => by cases h.1
    have r : ∀ l, racksZ (dcX x) false l = -1 := fun l => if_neg (by decide)
    rw [e, r, r]
    refine ⟨by omega, by omega, by omega, rfl, by decide⟩
theorem rep5 (k : Nat) : List.replicate k (5 : Int) ++ [5] = List.replicate (k + 1) 5 := by rw [← List.replicate_succ']

set_option maxHeartbeats 1600000 in
set_option maxRecDepth 100000 in
theorem walk (a0 : Cd) (A0 : Option Addr) (c0 : Nat) (w : World) (x0 : CIn w a0 A0) (n0 : a0.name.length ≤ 9223372036854775807) (T1 : Tabs w) (pg : Pg) :
    Calls Tryz.prog 7 #[a0.v A0 c0] w fun e w' => e = .returned (.bool true) ∧ Below w.heap.size w w' := by
  obtain ⟨W0, hW0⟩ : ∃ W, W = w.alloc (.cells (a0.cs A0 c0).toArray 24) := ⟨_, rfl⟩
  have hb0 : Below w.heap.size w W0 := by rw [hW0]; exact below_new w _
  have HB0 := hideIt hb0
  have HBC := hideIt (show BC W0 w.heap.size a0 A0 c0 by rw [hW0]; exact BC.new c0 x0)
  have HT := hideIt (T1.keep hb0)
  have HWE := hideIt hW0
  have HPG := hideIt pg
  have HSA := hideIt (fun (W : World) (h : Below W0.heap.size W0 W) => sanity_any HPG.out W (HT.out.keep h))
  have HSM := hideIt (small9_any a0 A0 c0 W0 HBC.out.cin)
  have hnot := not_b
  have HNM := hideIt n0
  clear hW0 hb0 x0 T1 pg n0
  by_cases hsm : sm9B a0 = true
  · rw [hsm] at HSM
    have HS9 := hideIt (sm9B_sm hsm)
    obtain ⟨b1, b2, b3, b4, b5⟩ := bounds_x HS9.out
    have hwn := HS9.out.wdn
    have hadd := add_sm9 HS9.out 3
    have HP1 := hideIt (fun (W : World) (h : Below W0.heap.size W0 W) => HPG.out.losses a0 A0 c0 W (HT.out.keep h) (HBC.out.keep h).cin HNM.out HS9.out)
    have HP2 := hideIt (fun (W : World) (h : Below W0.heap.size W0 W) (G : Option Addr) (cg : Nat) (hG : Sl W W.heap.size G 1 (wdN a0) ((ownL (wdN a0)).map iv)) =>
      show Calls Tryz.prog 18 #[a0.v A0 c0, .slice G (wdN a0) cg] W (fun e w' => e = .returned (.int .i64 (racksZ (dcX a0) (okX a0 (wdN a0)) (ownL (wdN a0)))) ∧ Below W.heap.size W w') by
        have := HPG.out.racks a0 A0 c0 W (HT.out.keep h) (HBC.out.keep h).cin HNM.out HS9.out (ownL (wdN a0)) G cg (by rw [ownL_len]; omega) (by rw [ownL_len]; exact hG)
        rw [ownL_len] at this
        exact this)
    have HP3 := hideIt (fun (W : World) (h : Below W0.heap.size W0 W) (G : Option Addr) (cg : Nat) (hG : Sl W W.heap.size G 1 (wdN a0) ((List.replicate (wdN a0) (5 : Int)).map iv)) =>
      show Calls Tryz.prog 18 #[a0.v A0 c0, .slice G (wdN a0) cg] W (fun e w' => e = .returned (.int .i64 (racksZ (dcX a0) (okX a0 (wdN a0)) (List.replicate (wdN a0) 5))) ∧ Below W.heap.size W w') by
        have := HPG.out.racks a0 A0 c0 W (HT.out.keep h) (HBC.out.keep h).cin HNM.out HS9.out (List.replicate (wdN a0) 5) G cg (by rw [List.length_replicate]; omega) (by rw [List.length_replicate]; exact hG)
        rw [List.length_replicate] at this
        exact this)
    rw [b4] at HP2
    rw [b5] at HP3
    generalize leftZ (dcX a0) (okX a0 (wdN a0)) (List.replicate (wdN a0) true) = z at *
    obtain ⟨N, hN⟩ : ∃ n, n = wdN a0 := ⟨_, rfl⟩
    rw [← hN] at hwn HP2 HP3
    rw [← hwn.1] at hadd
    have hN9 := hwn.2
    have e1 : binOp .geq 3 (.int .i64 z) (.int .i64 (-1)) = pure (.bool true) := by rw [binOp_geq, decide_eq_true (by omega)]
    have e2 : binOp .leq 3 (.int .i64 z) (.int .i64 4) = pure (.bool true) := by rw [binOp_leq, decide_eq_true b2]
    have e3 : binOp .leq 3 (.int .i64 z) (.int .i64 (a0.par.length : Int)) = pure (.bool true) := by rw [binOp_leq, decide_eq_true b3]
    have e4 : binOp .eql 3 (.int .i64 z) (.int .i64 z) = pure (.bool true) := by rw [i_eql, decide_eq_true rfl]
    have e5 : binOp .eql 3 (.int .i64 (min z 0)) (.int .i64 (min z 0)) = pure (.bool true) := by rw [i_eql, decide_eq_true rfl]
    clear hsm b1 b2 b3 b4 b5 hwn hN HPG HNM HS9 HT
    go_enter Tryz.func7, Tryz.ntmps7
    go_wp2_with (first | (go_at_call 9; rw [← HWE.out]; refine HSM.out.mono ?_; rintro e w1 ⟨rfl, hb⟩; have G1 := hideIt hb; clear hb HSM) | ((with_reducible refine at_load ?_); refine wpList_ldC (by kernel_rfl) (.tmp 1) rfl (p := w.heap.size) (c := c0) rfl (by first | exact HBX6.out | (rw [← HWE.out]; exact HBC.out.box)) ?_))
    have HO1 := hideIt (show O2 w1 w1.heap.size (.slice none 0 0) (.slice none 0 0) 0 0 (ownL 0) (List.replicate 0 5) from ⟨World.ownsRow_nil w1 _ _ 1, World.ownsRow_nil w1 _ _ 1, fun k hk => by cases hk⟩)
    go_loopg [4, 5, 6] N (fun gk s4 s5 s6 wr => ∃ k : Nat, k + gk = N ∧ s6 = .int .i64 (k : Int) ∧ Aside (O2 wr w1.heap.size s4 s5 k k (ownL k) (List.replicate k 5)) ∧ Aside (Below w1.heap.size w1 wr))
    case atStart => exact ⟨0, by omega, rfl, HO1.out, Below.refl _ _⟩
    case round =>
      obtain ⟨k, hk, rfl, HW, HL⟩ := hrel
      obtain ⟨w6, rfl⟩ : ∃ x, x = wr := ⟨wr, rfl⟩
      have G6 := hideIt (G1.out.trans (HL.out.mono G1.out.size))
      have HBX6 := hideIt (HBC.out.keep G6.out).box
      have c2 := (HBC.out.keep G6.out).c2
      have c3 : w6.cell? ⟨w.heap.size, 3, none⟩ = some (.slice A0 a0.par.length c0) := HBX6.out.cell 3
      by_cases hlt : k < N
      · have hki : (k : Int) < (N : Int) := by omega
        have hin1 := inc_c 3 k (by omega)
        have m1 : binOp .mul 3 (.int .i64 7) (.int .i64 (k : Int)) = pure (.int .i64 (7 * (k : Int))) := by
          show pure (Value.int .i64 (IntKind.i64.wrap (7 * (k : Int)))) = _
          rw [IntWalk.i64_in _ (by omega)]
        have m2 : binOp .sub 3 (.int .i64 (7 * (k : Int))) (.int .i64 3) = pure (.int .i64 (7 * (k : Int) - 3)) := by
          show pure (Value.int .i64 (IntKind.i64.wrap (7 * (k : Int) - 3))) = _
          rw [IntWalk.i64_in _ (by omega)]
        have HSN := hideIt (ownL_snoc k)
        have hk9 : k ≤ 9 := by omega
        clear hlt
        generalize 7 * (k : Int) - 3 = y at *
        go_wp2_with (first
          | ((with_reducible refine at_append ?_); refine wpList_apI (y := y) (n := k) (us := ownL k) rfl (.tmp 23) (.tmp 27) rfl rfl HW.out.a rfl (by omega) HL.out.size ?_; intro v7 w7 HO7 HG7 HA7 HB7; have HW7 := hideIt (HW.out.fst HG7.out HO7.out HA7.out); have HL7 := hideIt (HL.out.trans HB7.out))
          | ((with_reducible refine at_append ?_); refine wpList_apI (y := 5) (n := k) (us := List.replicate k 5) rfl (.tmp 29) (.tmp 30) rfl rfl HW7.out.b rfl (by omega) HL7.out.size ?_; intro v8 w8 HO8 HG8 HA8 HB8; have HW8 := hideIt (HW7.out.symm.fst HG8.out HO8.out HA8.out).symm; have HL8 := hideIt (HL7.out.trans HB8.out)))
        go_roundg (gk - 1)
        case measure => omega
        case rel => exact ⟨k + 1, by omega, by go_num, by have := HW8.out; rwa [HSN.out, rep5] at this, HL8.out⟩
      · have hki : ¬ (k : Int) < (N : Int) := by omega
        obtain rfl : k = N := by omega
        have hw := HW.out
        obtain ⟨AL, cL, rfl, _, _⟩ := own_form hw.a
        obtain ⟨AM, cM, rfl, _, _⟩ := own_form hw.b
        have HSL := hideIt (fun (W : World) (h : Below w6.heap.size w6 W) => ((Sl.of_own hw.a).below h).wide h.size)
        have HSM2 := hideIt (fun (W : World) (h : Below w6.heap.size w6 W) => ((Sl.of_own hw.b).below h).wide h.size)
        have HKC := hideIt (fun (W : World) (h : Below W0.heap.size W0 W) => show W.cell? ⟨w.heap.size, 3, none⟩ = some (.slice A0 a0.par.length c0) from (HBC.out.keep h).box.cell 3)
        clear hlt hw HW
        go_wp2_with (first
          | (go_at_call 11; refine (HP1.out _ G6.out).mono ?_; rintro e w7 ⟨rfl, hb⟩; have L7 := hideIt hb; have G7 := hideIt (G6.out.trans (hb.mono G6.out.size)); clear hb HP1)
          | (go_at_call 10; refine (HSA.out _ G7.out).mono ?_; rintro e w9 ⟨rfl, hb⟩; have L9 := hideIt (L7.out.trans (hb.mono L7.out.size)); have G9 := hideIt (G7.out.trans (hb.mono G7.out.size)); have c39 := HKC.out _ G9.out; clear hb HSA)
          | (go_at_call 18; refine (HP2.out _ G9.out _ _ (HSL.out _ L9.out)).mono ?_; rintro e w10 ⟨rfl, hb⟩; have L10 := hideIt (L9.out.trans (hb.mono L9.out.size)); have K5 := hideIt (G9.out.trans (hb.mono G9.out.size)); clear hb HP2)
          | (go_at_call 18; refine (HP3.out _ K5.out _ _ (HSM2.out _ L10.out)).mono ?_; rintro e w11 ⟨rfl, hb⟩; have K6 := hideIt (K5.out.trans (hb.mono K5.out.size)); clear hb HP3)
          | ((with_reducible refine at_load ?_); refine wpList_ldC (by kernel_rfl) (.tmp 1) rfl (p := w.heap.size) (c := c0) rfl (by first | exact (HBC.out.keep K5.out).box | exact (HBC.out.keep G9.out).box | exact HBX6.out | (rw [← HWE.out]; exact HBC.out.box)) ?_))
        go_ret
        exact ⟨rfl, HB0.out.trans (K6.out.mono HB0.out.size)⟩
  · have hf : sm9B a0 = false := Bool.eq_false_iff.2 hsm
    rw [hf] at HSM
    clear hsm hf
    go_enter Tryz.func7, Tryz.ntmps7
    go_wp2_with (first | (go_at_call 9; rw [← HWE.out]; refine HSM.out.mono ?_; rintro e w1 ⟨rfl, hb⟩; have G1 := hideIt hb; clear hb HSM) | ((with_reducible refine at_load ?_); refine wpList_ldC (by kernel_rfl) (.tmp 1) rfl (p := w.heap.size) (c := c0) rfl (by first | exact HBX6.out | (rw [← HWE.out]; exact HBC.out.box)) ?_) | (go_at_call 10; refine (HSA.out _ G1.out).mono ?_; rintro e w9 ⟨rfl, hb⟩; have G9 := hideIt (G1.out.trans (hb.mono G1.out.size)); clear hb HSA))
    go_ret
    exact ⟨rfl, HB0.out.trans (G9.out.mono HB0.out.size)⟩

end Go.Proofs.YtkfahoaiialndaaGreatDoor.distanceBounds
