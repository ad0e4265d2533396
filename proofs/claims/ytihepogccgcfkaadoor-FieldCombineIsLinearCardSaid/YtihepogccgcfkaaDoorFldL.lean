/-
  Logarithms, walked: field.Log and the reference's.
-/
import Derived.Test.YtihepogccgcfkaaDoorFldR
namespace Go.Proofs.YtihepogccgcfkaaDoor
open Go.RowKit
set_option linter.unusedVariables false

theorem nneg (r : Nat) (h : r < 9223372036854775808) : Op.unary .neg (.int .i64 (r : Int)) = pure (.int .i64 (-(r : Int))) := by
  show pure (Value.int .i64 (IntKind.i64.wrap (0 - (r : Int)))) = _
  rw [Int.zero_sub, IntWalk.i64_in _ (by omega)]
theorem half_c (t : TypeId) {m : Nat} (hm : Fm m) : binOp .quo t (.int .i64 (m : Int)) (.int .i64 2) = pure (.int .i64 ((m / 2 : Nat) : Int)) := nquo t m 2 (by decide) (by have := fm_le hm; omega)
theorem rt_shl (t : TypeId) {m : Nat} (hm : Fm m) : binOp .shl t (.int .i64 1) (.int .i64 ((m / 2 : Nat) : Int)) = pure (.int .i64 ((rt m : Nat) : Int)) := nshl_one t (m / 2) (by have := fm_le hm; omega)

set_option maxHeartbeats 1000000 in
theorem log_any (m a : Int) (w : World) (hT : Tabs w) (n : Nat) :
    Calls Tryd.prog 28 #[.int .i64 m, .int .i64 a] (w.drewN n) fun e w' => e = .returned (nerr (logR m a).1 (logR m a).2) ∧ ∃ k, w' = w.drewN k := by
  have HV1 := hideIt (valid_dr m a w hT n)
  unfold logR nerr
  by_cases h1 : vd m a = true
  · rw [if_pos h1]
    obtain ⟨k, y, rfl, rfl, hk, hy⟩ := vd_spec h1
    rw [h1] at HV1
    by_cases h0 : (y : Int) = 0
    · rw [if_pos h0]
      have hq := int_eqlT 3 h0
      clear hT h1 hy hk h0
      go_enter Tryd.func28, Tryd.ntmps28
      go_wp2_with (go_at_call 20; refine HV1.out.mono ?_; rintro e w' ⟨rfl, rfl⟩; clear HV1)
      go_ret2
      exact ⟨rfl, _, rfl⟩
    · rw [if_neg h0, Int.toNat_natCast, Int.toNat_natCast]
      have hq := int_eqlF 3 h0
      have hy0 : y ≠ 0 := by omega
      have hhalf := half_c 3 hk
      have hshl := rt_shl 3 hk
      obtain ⟨r1, r2, r3⟩ := rt_lit hk
      have hbig := fm_big hk
      have hsub := nsub_one 3 (rt k) (by omega) (by omega)
      have hadd := inc_c 3 (rt k) (by omega)
      have hl := (lg_spec hk hy hy0).1
      have hqm := qm_pos hk
      have hml : lg k y % (rt k + 1) < rt k + 1 := Nat.mod_lt _ (by omega)
      have hdl : lg k y / (rt k + 1) ≤ lg k y := Nat.div_le_self _ _
      have HP1 := hideIt (fun n => power_any k 2 ((rt k - 1 : Nat) : Int) hk (fm_two hk) (by omega) w hT n)
      have HP2 := hideIt (fun n => power_any k y ((rt k - 1 : Nat) : Int) hk hy (by omega) w hT n)
      have HP3 := hideIt (fun n => power_any k 2 (-((lg k y % (rt k + 1) : Nat) : Int)) hk (fm_two hk) (by omega) w hT n)
      have HP4 := hideIt (fun n => power_any k 2 ((rt k + 1 : Nat) : Int) hk (fm_two hk) (by omega) w hT n)
      have HS1 := hideIt (fun n => steps_any k (pw k 2 (rt k - 1)) (pw k y (rt k - 1)) _ hk (pw_lt hk _ _) (by omega) (least_one hk hy hy0) w hT n)
      have HPR := hideIt (fun n => prod_any k y (pwZ k 2 (-((lg k y % (rt k + 1) : Nat) : Int))) hk hy (pwZ_lt hk _ _) w hT n)
      have HS2 := hideIt (fun n => steps_any k (pw k 2 (rt k + 1)) (mul k y (pwZ k 2 (-((lg k y % (rt k + 1) : Nat) : Int)))) _ hk (pw_lt hk _ _) (by omega) (least_two hk hy hy0) w hT n)
      simp only [pwZ_nat] at HP1 HP2 HP4
      have hneg := nneg (lg k y % (rt k + 1)) (by omega)
      have hneg2 : IntKind.i64.wrap (-((lg k y % (rt k + 1) : Nat) : Int)) = -((lg k y % (rt k + 1) : Nat) : Int) := IntWalk.i64_in _ (by omega)
      have hdm := Nat.div_add_mod (lg k y) (rt k + 1)
      have hdm2 : lg k y / (rt k + 1) * (rt k + 1) + lg k y % (rt k + 1) = lg k y := by rw [Nat.mul_comm]; exact hdm
      have hmul := nmul 3 (lg k y / (rt k + 1)) (rt k + 1) (by omega)
      have hadd2 := nadd 3 (lg k y / (rt k + 1) * (rt k + 1)) (lg k y % (rt k + 1)) (by omega)
      rw [hdm2] at hadd2
      clear hT h1 hy hk h0 hy0 r1 r2 r3 hbig hl hqm hml hdl hdm hdm2
      generalize pw k 2 (rt k - 1) = p1 at *
      generalize pw k y (rt k - 1) = p2 at *
      generalize pw k 2 (rt k + 1) = p4 at *
      generalize lg k y / (rt k + 1) * (rt k + 1) = v1 at *
      generalize lg k y / (rt k + 1) = v2 at *
      generalize lg k y % (rt k + 1) = v3 at *
      generalize pwZ k 2 (-(v3 : Int)) = p3 at *
      generalize mul k y p3 = p5 at *
      generalize lg k y = v4 at *
      generalize rt k - 1 = u1 at *
      generalize rt k + 1 = u2 at *
      generalize rt k = u3 at *
      generalize k / 2 = u4 at *
      go_enter Tryd.func28, Tryd.ntmps28
      go_wp2_with (first
        | (go_at_call 20; refine HV1.out.mono ?_; rintro e w' ⟨rfl, rfl⟩; clear HV1)
        | (go_at_call 34; refine (HP1.out _).mono ?_; rintro e w' ⟨rfl, n1, rfl⟩; clear HP1)
        | (go_at_call 34; refine (HP2.out _).mono ?_; rintro e w' ⟨rfl, n2, rfl⟩; clear HP2)
        | (go_at_call 41; refine (HS1.out _).mono ?_; rintro e w' ⟨rfl, n3, rfl⟩; clear HS1)
        | (go_at_call 34; refine (HP3.out _).mono ?_; rintro e w' ⟨rfl, n4, rfl⟩; clear HP3)
        | (go_at_call 31; refine (HPR.out _).mono ?_; rintro e w' ⟨rfl, n5, rfl⟩; clear HPR)
        | (go_at_call 34; refine (HP4.out _).mono ?_; rintro e w' ⟨rfl, n6, rfl⟩; clear HP4)
        | (go_at_call 41; refine (HS2.out _).mono ?_; rintro e w' ⟨rfl, n7, rfl⟩; clear HS2))
      go_ret2
      exact ⟨rfl, _, rfl⟩
  · rw [if_neg h1]
    rw [Bool.eq_false_iff.2 h1] at HV1
    clear hT h1
    go_enter Tryd.func28, Tryd.ntmps28
    go_wp2_with (go_at_call 20; refine HV1.out.mono ?_; rintro e w' ⟨rfl, rfl⟩; clear HV1)
    go_ret2
    exact ⟨rfl, _, rfl⟩

/-- The reference's search: all exponents below l have been tried. -/
theorem lg_not {m : Nat} (hm : Fm m) {a : Nat} (ha : a < 2 ^ m) (h0 : a ≠ 0) {n : Nat} (h : n < lg m a) : pw m 2 n ≠ a := fun e => by
  obtain ⟨l1, l2⟩ := lg_spec hm ha h0
  have := lg_is hm (l := n) (by omega)
  rw [e] at this
  omega
theorem neq0_pw {m : Nat} (hm : Fm m) (n : Nat) : (pw m 2 n : Int) ≠ 0 := by
  have := pw_ne hm (fm_two hm) (by decide) n
  omega

set_option maxHeartbeats 1000000 in
theorem rlog_any (m a : Int) (w : World) :
    Calls Tryd.prog 29 #[.int .i64 m, .int .i64 a] w fun e w' => e = .returned (nerr (logR m a).1 (logR m a).2) ∧ w = w' := by
  have HV1 := hideIt (rvalid_any m a w)
  unfold logR nerr
  by_cases h1 : vd m a = true
  · rw [if_pos h1]
    obtain ⟨k, y, rfl, rfl, hk, hy⟩ := vd_spec h1
    rw [h1] at HV1
    have hshl := nshl_one 3 k (fm_le hk)
    have hqm := qm_pos hk
    have hbig := fm_big hk
    have hsub := nsub_one 3 (2 ^ k) (by omega) (by omega)
    rw [show 2 ^ k - 1 = qm k from rfl] at hsub
    obtain ⟨q, hq⟩ : ∃ q, q = qm k := ⟨_, rfl⟩
    rw [← hq] at hsub
    have HQ := hideIt hq
    have hq2 : q < 65536 := by omega
    have HM := hideIt hk
    have HY := hideIt hy
    by_cases h0 : (y : Int) = 0
    · rw [if_pos h0]
      obtain rfl : y = 0 := by omega
      clear h1 hy hk h0 hqm hbig hq
      generalize 2 ^ k = P at hsub hshl
      go_enter Tryd.func29, Tryd.ntmps29
      go_wp2_with (go_at_call 21; refine HV1.out.mono ?_; rintro e w' ⟨rfl, rfl⟩; clear HV1)
      go_loopg [7, 8] q (fun g s7 s8 wr => ∃ (i x : Nat), i + g = q ∧ s7 = .int .i64 (x : Int) ∧ s8 = .int .i64 (i : Int) ∧ wr = w ∧ Aside (x = pw k 2 i))
      case atStart => exact ⟨0, 1, by omega, rfl, rfl, rfl, rfl⟩
      case round =>
        obtain ⟨i, x, hi, rfl, rfl, rfl, HX⟩ := hrel
        by_cases hlt : i < q
        · have hlti : (i : Int) < (q : Int) := by omega
          have hne := int_eqlF 3 (a := (x : Int)) (b := 0) (by rw [HX.out]; exact neq0_pw HM.out i)
          have hinc := inc_c 3 i (by omega)
          have HTI := hideIt (tim_any k x 2 HM.out (by rw [HX.out]; exact pw_lt HM.out _ _) (fm_two HM.out) wr)
          have HNX := hideIt (show mul k x 2 = pw k 2 (i + 1) by rw [HX.out]; rfl)
          clear HX
          generalize mul k x 2 = x2 at *
          go_wp2_with (go_at_call 32; refine HTI.out.mono ?_; rintro e w' ⟨rfl, rfl⟩; clear HTI)
          go_roundg (gk - 1)
          case measure => omega
          case rel => exact ⟨i + 1, x2, by omega, rfl, by go_num, rfl, HNX.out⟩
        · have hlti : ¬ (i : Int) < (q : Int) := by omega
          clear HX
          go_wp2_with fail
          go_ret2
          exact ⟨rfl, rfl⟩
    · rw [if_neg h0, Int.toNat_natCast, Int.toNat_natCast]
      have hy0 : y ≠ 0 := by omega
      obtain ⟨l1, l2⟩ := lg_spec hk hy hy0
      have HL := hideIt (fun (n : Nat) (h : n < lg k y) => lg_not hk hy hy0 h)
      rw [← hq] at l1
      have hl1 : ((lg k y : Nat) : Int) < (q : Int) := by omega
      generalize lg k y = N at *
      have HL2 := hideIt l2
      have HL1 := hideIt l1
      clear h1 hy hk h0 hqm hbig hq hy0 l2 l1
      generalize 2 ^ k = P at hsub hshl
      go_enter Tryd.func29, Tryd.ntmps29
      go_wp2_with (go_at_call 21; refine HV1.out.mono ?_; rintro e w' ⟨rfl, rfl⟩; clear HV1)
      go_loopg [7, 8] N (fun g s7 s8 wr => ∃ (i x : Nat), i + g = N ∧ s7 = .int .i64 (x : Int) ∧ s8 = .int .i64 (i : Int) ∧ wr = w ∧ Aside (x = pw k 2 i))
      case atStart => exact ⟨0, 1, by omega, rfl, rfl, rfl, rfl⟩
      case round =>
        obtain ⟨i, x, hi, rfl, rfl, rfl, HX⟩ := hrel
        by_cases hlt : i < N
        · have hlti : (i : Int) < (q : Int) := by omega
          have hne := int_eqlF 3 (a := (x : Int)) (b := (y : Int)) (by rw [HX.out]; have := HL.out i hlt; omega)
          have hinc := inc_c 3 i (by omega)
          have HTI := hideIt (tim_any k x 2 HM.out (by rw [HX.out]; exact pw_lt HM.out _ _) (fm_two HM.out) wr)
          have HNX := hideIt (show mul k x 2 = pw k 2 (i + 1) by rw [HX.out]; rfl)
          clear HX
          generalize mul k x 2 = x2 at *
          go_wp2_with (go_at_call 32; refine HTI.out.mono ?_; rintro e w' ⟨rfl, rfl⟩; clear HTI)
          go_roundg (gk - 1)
          case measure => omega
          case rel => exact ⟨i + 1, x2, by omega, rfl, by go_num, rfl, HNX.out⟩
        · obtain rfl : i = N := by omega
          have heq := int_eqlT 3 (a := (x : Int)) (b := (y : Int)) (by rw [HX.out, HL2.out])
          clear HX
          go_wp2_with fail
          go_ret2
          exact ⟨rfl, rfl⟩
  · rw [if_neg h1]
    rw [Bool.eq_false_iff.2 h1] at HV1
    clear h1
    go_enter Tryd.func29, Tryd.ntmps29
    go_wp2_with (go_at_call 21; refine HV1.out.mono ?_; rintro e w' ⟨rfl, rfl⟩; clear HV1)
    go_ret2
    exact ⟨rfl, rfl⟩

end Go.Proofs.YtihepogccgcfkaaDoor
