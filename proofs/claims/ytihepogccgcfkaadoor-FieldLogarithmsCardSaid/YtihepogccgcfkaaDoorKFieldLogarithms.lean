/-
  The walk of the law: For m = 8 and m = 16 and all elements other than 0, the power of 2 with the exponent Log is the element, and the logarithm of a product is the sum of the logarithms modulo the number of the elements other than 0; 0 has no logarithm.
-/
import Derived.Test.YtihepogccgcfkaaDoorFOk
namespace Go.Proofs.YtihepogccgcfkaaDoor.fieldLogarithms
open Go.RowKit
set_option linter.unusedVariables false

set_option maxHeartbeats 1000000 in
set_option maxRecDepth 100000 in
theorem walk (a0 : Nat) (a1 : Nat) (w : World) (w0 : a0 < 65536) (w1 : a1 < 65536) (T1 : Tabs w) :
    Calls Tryd.prog 6 #[.int .u16 (a0 : Int), .int .u16 (a1 : Int)] w fun e w' => e = .returned (.bool true) ∧ Below w.heap.size w w' := by
  have HT := hideIt T1
  have HS0 := hideIt (sanity_any w T1)
  clear T1
  have w1' := w1
  clear w1
  go_enter Tryd.func6, Tryd.ntmps6
  go_wp2_with (go_at_call 9; refine HS0.out.mono ?_; rintro e w1 ⟨rfl, hb⟩; have HB := hideIt hb; clear hb HS0)
  go_loopg [6] 2 (fun g s8 wr => ∃ k : Nat, k + g = 2 ∧ s8 = .int .i64 (k : Int) ∧ Aside (Below w.heap.size w wr))
  case atStart => exact ⟨0, rfl, rfl, HB.out⟩
  case round =>
    clear HB
    obtain ⟨k, hk, rfl, HW⟩ := hrel
    by_cases hlt : k < 2
    · have HB := hideIt HW.out
      obtain ⟨m, hmk⟩ : ∃ m, m = 8 + 8 * k := ⟨_, rfl⟩
      have hm : Fm m := by unfold Fm; omega
      have hbig := fm_big hm
      have hqm := qm_pos hm
      have hmul : binOp .mul 3 (.int .i64 8) (.int .i64 (k : Int)) = pure (.int .i64 ((8 * k : Nat) : Int)) := nmul 3 8 k (by omega)
      have hadd : binOp .add 3 (.int .i64 8) (.int .i64 ((8 * k : Nat) : Int)) = pure (.int .i64 ((8 + 8 * k : Nat) : Int)) := nadd 3 8 (8 * k) (by omega)
      rw [← hmk] at hadd
      have hshl := nshl_one 3 m (fm_le hm)
      have hinc := inc_c 3 k (by omega)
      have hki : (k : Int) < 2 := by omega
      generalize 8 * k = k8 at *
      have hsub : binOp .sub 3 (.int .i64 ((2 ^ m : Nat) : Int)) (.int .i64 1) = pure (.int .i64 ((qm m : Nat) : Int)) := nsub 3 (2 ^ m) 1 (by omega) (by omega)
      have hq0 : 0 < qm m := by omega
      have cv0 := fun W => conv_u16 a0 w0 W
      have rm0 := nrem 3 a0 (qm m) hq0
      have ml0 := Nat.mod_lt a0 hq0
      have ad0 : binOp .add 3 (.int .i64 1) (.int .i64 ((a0 % qm m : Nat) : Int)) = pure (.int .i64 ((1 + a0 % qm m : Nat) : Int)) := nadd 3 1 (a0 % qm m) (by omega)
      generalize a0 % qm m = r0 at *
      have hx : 1 + r0 < 2 ^ m := by omega
      have nx : 1 + r0 ≠ 0 := by omega
      generalize 1 + r0 = x at *
      have cv1 := fun W => conv_u16 a1 w1' W
      have rm1 := nrem 3 a1 (qm m) hq0
      have ml1 := Nat.mod_lt a1 hq0
      have ad1 : binOp .add 3 (.int .i64 1) (.int .i64 ((a1 % qm m : Nat) : Int)) = pure (.int .i64 ((1 + a1 % qm m : Nat) : Int)) := nadd 3 1 (a1 % qm m) (by omega)
      generalize a1 % qm m = r1 at *
      have hy : 1 + r1 < 2 ^ m := by omega
      have ny : 1 + r1 ≠ 0 := by omega
      generalize 1 + r1 = y at *
      obtain ⟨hi1, hi2⟩ := lg_spec hm hx nx
      obtain ⟨hj1, hj2⟩ := lg_spec hm hy ny
      have hpl := mul_lt hm y hx
      have hpn := mul_ne hm hx hy nx ny
      have hlm := lg_mul hm hx hy nx ny
      obtain ⟨i, hi⟩ : ∃ v, lg m x = v := ⟨_, rfl⟩
      obtain ⟨j, hj⟩ : ∃ v, lg m y = v := ⟨_, rfl⟩
      obtain ⟨p, hp⟩ : ∃ v, mul m x y = v := ⟨_, rfl⟩
      obtain ⟨n, hn⟩ : ∃ v, lg m p = v := ⟨_, rfl⟩
      have hnn : n = (i + j) % qm m := by rw [← hn, ← hp, hlm, hi, hj]
      rw [hi] at hi1 hi2
      rw [hj] at hj1 hj2
      rw [hp] at hpl hpn
      have c1 := hideIt (logN HT.out hm hx nx i hi)
      have c2 := hideIt (logN HT.out hm hy ny j hj)
      have c3 := hideIt (mulN HT.out hm hx hy p hp)
      have c4 := hideIt (logN HT.out hm hpl hpn n hn)
      have c5 : Hid (∀ W, Below w.heap.size w W → Calls Tryd.prog 18 #[.int .i64 (m : Int), .int .i64 2, .int .i64 (i : Int)] W fun e w' => e = .returned (.tuple #[.int .i64 (x : Int), .int .i64 0]) ∧ Below w.heap.size w w') := hideIt (powN HT.out hm (fm_two hm) (by decide) (i : Int) (by omega) x (by rw [pwZ_nat, hi2]))
      have c6 := hideIt (logZ HT.out hm)
      have c7 := hideIt (logB HT.out hm)
      have c8 := hideIt (rlogN hm hx nx i hi)
      have n1 := neqF 3 i
      have n2 := neqF 3 x
      have hsum := nadd 3 i j (by omega)
      have hrm := nrem 3 (i + j) (qm m) hq0
      rw [← hnn] at hrm
      have n3 := neqF 3 n
      have hge0 : ¬ (i : Int) < 0 := by omega
      have hgeq : ¬ ((qm m : Nat) : Int) ≤ (i : Int) := by omega
      clear hi hj hp hn hnn hi1 hi2 hj1 hj2 hpl hpn hlm hx hy nx ny ml0 ml1 hq0 hm hbig hqm hmk hlt HT w0 w1'
      generalize i + j = ij at *
      generalize qm m = q at *
      generalize 2 ^ m = q1 at *
      go_wp2_with (first
        | (go_at_call 28; refine (c1.out _ HB.out).mono ?_; rintro e w' ⟨rfl, hb⟩; clear HB c1; have HB := hideIt hb; clear hb)
        | (go_at_call 28; refine (c2.out _ HB.out).mono ?_; rintro e w' ⟨rfl, hb⟩; clear HB c2; have HB := hideIt hb; clear hb)
        | (go_at_call 12; refine (c3.out _ HB.out).mono ?_; rintro e w' ⟨rfl, hb⟩; clear HB c3; have HB := hideIt hb; clear hb)
        | (go_at_call 28; refine (c4.out _ HB.out).mono ?_; rintro e w' ⟨rfl, hb⟩; clear HB c4; have HB := hideIt hb; clear hb)
        | (go_at_call 18; refine (c5.out _ HB.out).mono ?_; rintro e w' ⟨rfl, hb⟩; clear HB c5; have HB := hideIt hb; clear hb)
        | (go_at_call 28; refine (c6.out _ HB.out).mono ?_; rintro e w' ⟨rfl, hb⟩; clear HB c6; have HB := hideIt hb; clear hb)
        | (go_at_call 28; refine (c7.out _ HB.out).mono ?_; rintro e w' ⟨rfl, hb⟩; clear HB c7; have HB := hideIt hb; clear hb)
        | (go_at_call 29; refine (c8.out _).mono ?_; rintro e w' ⟨rfl, rfl⟩; clear c8))
      go_roundg (gk - 1)
      case measure => omega
      case rel => exact ⟨k + 1, by omega, by go_num, HB.out⟩
    · have hki : ¬ (k : Int) < 2 := by omega
      clear hlt
      go_wp2_with fail
      go_ret
      exact ⟨rfl, HW.out⟩

end Go.Proofs.YtihepogccgcfkaaDoor.fieldLogarithms
