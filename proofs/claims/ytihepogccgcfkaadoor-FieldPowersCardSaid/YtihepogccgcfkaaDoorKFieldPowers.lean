/-
  The walk of the law: For m = 8 and m = 16, every element other than 0 and all exponents of 32 bits, the power with the sum of two exponents is the product of the powers, and a negative exponent gives the inverse.
-/
import Derived.Test.YtihepogccgcfkaaDoorFOk
namespace Go.Proofs.YtihepogccgcfkaaDoor.fieldPowers
open Go.RowKit
set_option linter.unusedVariables false

set_option maxHeartbeats 1000000 in
set_option maxRecDepth 100000 in
theorem walk (a0 : Nat) (a1 : Int) (a2 : Int) (w : World) (w0 : a0 < 65536) (w1 : -2147483648 ≤ a1 ∧ a1 ≤ 2147483647) (w2 : -2147483648 ≤ a2 ∧ a2 ≤ 2147483647) (T1 : Tabs w) :
    Calls Tryd.prog 7 #[.int .u16 (a0 : Int), .int .i32 a1, .int .i32 a2] w fun e w' => e = .returned (.bool true) ∧ Below w.heap.size w w' := by
  have HT := hideIt T1
  have HS0 := hideIt (sanity_any w T1)
  clear T1
  have w1' := w1
  clear w1
  go_enter Tryd.func7, Tryd.ntmps7
  go_wp2_with (go_at_call 9; refine HS0.out.mono ?_; rintro e w1 ⟨rfl, hb⟩; have HB := hideIt hb; clear hb HS0)
  go_loopg [8] 2 (fun g s8 wr => ∃ k : Nat, k + g = 2 ∧ s8 = .int .i64 (k : Int) ∧ Aside (Below w.heap.size w wr))
  case atStart => exact ⟨0, rfl, rfl, HB.out⟩
  case round =>
    clear HB
    obtain ⟨k, hk, rfl, HW⟩ := hrel
    by_cases hlt : k < 2
    · have HB := hideIt HW.out
      obtain ⟨m, hmk⟩ : ∃ m, m = 8 + 8 * k := ⟨_, rfl⟩
      have hm : Fm m := by unfold Fm; omega
      have hbig := fm_big hm
      have hqm := qm_pos hm
      have hmul : binOp .mul 3 (.int .i64 8) (.int .i64 (k : Int)) = pure (.int .i64 ((8 * k : Nat) : Int)) := nmul 3 8 k (by omega)
      have hadd : binOp .add 3 (.int .i64 8) (.int .i64 ((8 * k : Nat) : Int)) = pure (.int .i64 ((8 + 8 * k : Nat) : Int)) := nadd 3 8 (8 * k) (by omega)
      rw [← hmk] at hadd
      have hshl := nshl_one 3 m (fm_le hm)
      have hinc := inc_c 3 k (by omega)
      have hki : (k : Int) < 2 := by omega
      generalize 8 * k = k8 at *
      have hsub : binOp .sub 3 (.int .i64 ((2 ^ m : Nat) : Int)) (.int .i64 1) = pure (.int .i64 ((qm m : Nat) : Int)) := nsub 3 (2 ^ m) 1 (by omega) (by omega)
      have hq0 : 0 < qm m := by omega
      have cv0 := fun W => conv_u16 a0 w0 W
      have rm0 := nrem 3 a0 (qm m) hq0
      have ml0 := Nat.mod_lt a0 hq0
      have ad0 : binOp .add 3 (.int .i64 1) (.int .i64 ((a0 % qm m : Nat) : Int)) = pure (.int .i64 ((1 + a0 % qm m : Nat) : Int)) := nadd 3 1 (a0 % qm m) (by omega)
      generalize a0 % qm m = r0 at *
      have hx : 1 + r0 < 2 ^ m := by omega
      have nx : 1 + r0 ≠ 0 := by omega
      generalize 1 + r0 = x at *
      have cvi := fun W => conv_i32 a1 w1' W
      have cvj := fun W => conv_i32 a2 w2 W
      have hsum : binOp .add 3 (.int .i64 a1) (.int .i64 a2) = pure (.int .i64 (a1 + a2)) := by
        rw [binOp_add]
        simp only [Op.intArith]
        rw [IntWalk.i64_in _ (by omega)]
      have hneg : Op.unary .neg (.int .i64 a1) = pure (.int .i64 (-a1)) := by
        simp only [Op.unary, Op.intArith]
        rw [Int.zero_sub, IntWalk.i64_in _ (by omega)]
      have hu := pwZ_lt hm x a1
      have hv := pwZ_lt hm x a2
      have nu := pwZ_ne hm hx nx a1
      have had := pwZ_add hm hx nx a1 a2
      have hng := pwZ_neg hm hx nx a1
      have hqq := pwZ_q hm hx nx
      obtain ⟨u, eu⟩ : ∃ v, pwZ m x a1 = v := ⟨_, rfl⟩
      obtain ⟨v, ev⟩ : ∃ v, pwZ m x a2 = v := ⟨_, rfl⟩
      obtain ⟨p, ep⟩ : ∃ v, pwZ m x (a1 + a2) = v := ⟨_, rfl⟩
      obtain ⟨r, er⟩ : ∃ v, pwZ m x (-a1) = v := ⟨_, rfl⟩
      rw [eu] at hu nu had hng
      rw [ev] at hv had
      rw [ep] at had
      rw [er] at hng
      have c1 := hideIt (powN HT.out hm hx nx a1 (by omega) u eu)
      have c2 := hideIt (powN HT.out hm hx nx a2 (by omega) v ev)
      have c3 := hideIt (powN HT.out hm hx nx (a1 + a2) (by omega) p ep)
      have c4 := hideIt (mulN HT.out hm hu hv p had)
      have c5 : Hid (∀ W, Below w.heap.size w W → Calls Tryd.prog 18 #[.int .i64 (m : Int), .int .i64 (x : Int), .int .i64 ((qm m : Nat) : Int)] W fun e w' => e = .returned (.tuple #[.int .i64 1, .int .i64 0]) ∧ Below w.heap.size w w') := hideIt (powN HT.out hm hx nx ((qm m : Nat) : Int) (by omega) 1 hqq)
      have c6 := hideIt (powN HT.out hm hx nx (-a1) (by omega) r er)
      have c7 := hideIt (invN HT.out hm hu nu r hng)
      have n1 := neqF 3 p
      have n2 := neqF 3 r
      clear eu ev ep er hu hv nu had hng hqq hx nx ml0 hq0 hm hbig hqm hmk hlt HT w0 w1' w2
      generalize a1 + a2 = aa at *
      generalize -a1 = an at *
      generalize qm m = q at *
      generalize 2 ^ m = q1 at *
      go_wp2_with (first
        | (go_at_call 18; refine (c1.out _ HB.out).mono ?_; rintro e w' ⟨rfl, hb⟩; clear HB c1; have HB := hideIt hb; clear hb)
        | (go_at_call 18; refine (c2.out _ HB.out).mono ?_; rintro e w' ⟨rfl, hb⟩; clear HB c2; have HB := hideIt hb; clear hb)
        | (go_at_call 18; refine (c3.out _ HB.out).mono ?_; rintro e w' ⟨rfl, hb⟩; clear HB c3; have HB := hideIt hb; clear hb)
        | (go_at_call 12; refine (c4.out _ HB.out).mono ?_; rintro e w' ⟨rfl, hb⟩; clear HB c4; have HB := hideIt hb; clear hb)
        | (go_at_call 18; refine (c5.out _ HB.out).mono ?_; rintro e w' ⟨rfl, hb⟩; clear HB c5; have HB := hideIt hb; clear hb)
        | (go_at_call 18; refine (c6.out _ HB.out).mono ?_; rintro e w' ⟨rfl, hb⟩; clear HB c6; have HB := hideIt hb; clear hb)
        | (go_at_call 14; refine (c7.out _ HB.out).mono ?_; rintro e w' ⟨rfl, hb⟩; clear HB c7; have HB := hideIt hb; clear hb))
      go_roundg (gk - 1)
      case measure => omega
      case rel => exact ⟨k + 1, by omega, by go_num, HB.out⟩
    · have hki : ¬ (k : Int) < 2 := by omega
      clear hlt
      go_wp2_with fail
      go_ret
      exact ⟨rfl, HW.out⟩

end Go.Proofs.YtihepogccgcfkaaDoor.fieldPowers
