/-
  The reference's functions on elements, walked.
-/
import Derived.Test.YtihepogccgcfkaaDoorFldF
namespace Go.Proofs.YtihepogccgcfkaaDoor
open Go.RowKit
set_option linter.unusedVariables false

theorem rpoly_any (m : Int) (w : World) :
    Calls Tryd.prog 35 #[.int .i64 m] w fun e w' => e = .returned (.int .i64 (if m = 8 then 285 else if m = 16 then 69643 else 0)) ∧ w = w' := by
  by_cases h8 : m = 8
  · subst h8
    go_enter Tryd.func35, Tryd.ntmps35
    go_wp2_with fail
    go_ret
    exact ⟨rfl, rfl⟩
  by_cases h16 : m = 16
  · subst h16
    go_enter Tryd.func35, Tryd.ntmps35
    go_wp2_with fail
    go_ret
    exact ⟨rfl, rfl⟩
  rw [if_neg h8, if_neg h16]
  have e8 := int_eqlF 3 h8
  have e16 := int_eqlF 3 h16
  clear h8 h16
  go_enter Tryd.func35, Tryd.ntmps35
  go_wp2_with fail
  go_ret
  exact ⟨rfl, rfl⟩
theorem rpoly_m {m : Nat} (hm : Fm m) (w : World) : Calls Tryd.prog 35 #[.int .i64 (m : Int)] w fun e w' => e = .returned (.int .i64 (pol m : Nat)) ∧ w = w' := by
  refine (rpoly_any m w).mono ?_
  rintro e w' ⟨rfl, rfl⟩
  rcases hm with rfl | rfl <;> exact ⟨rfl, rfl⟩

set_option maxHeartbeats 400000 in
theorem rvalid_any (m a : Int) (w : World) :
    Calls Tryd.prog 21 #[.int .i64 m, .int .i64 a] w fun e w' => e = .returned (.bool (vd m a)) ∧ w = w' := by
  have HP := hideIt (rpoly_any m w)
  by_cases hm : m = 8 ∨ m = 16
  · have hne : (if m = 8 then (285 : Int) else if m = 16 then 69643 else 0) ≠ 0 := by split; decide; split; decide; omega
    generalize (if m = 8 then (285 : Int) else if m = 16 then 69643 else 0) = p at *
    have hv : vd m a = decide (0 ≤ a ∧ a < 2 ^ m.toNat) := by
      unfold vd
      apply decide_eq_decide.2
      exact ⟨fun h => h.2, fun h => ⟨hm, h⟩⟩
    have hshl : binOp .shl 3 (.int .i64 1) (.int .i64 m) = pure (.int .i64 (2 ^ m.toNat)) := by
      rcases hm with rfl | rfl
      · exact nshl_one 3 8 (by decide)
      · exact nshl_one 3 16 (by decide)
    generalize (2 : Int) ^ m.toNat = P at *
    have hpne : binOp .neq 3 (.int .i64 p) (.int .i64 0) = pure (.bool true) := by
      rw [binOp_neq]
      have h2 : (p != 0) = true := by rw [bne_iff_ne]; exact hne
      rw [h2]
    rw [hv]
    clear hv hm hne
    by_cases h0 : 0 ≤ a
    · by_cases h1 : a < P
      · rw [decide_eq_true ⟨h0, h1⟩]
        go_enter Tryd.func21, Tryd.ntmps21
        go_wp2_with (go_at_call 35; refine HP.out.mono ?_; rintro e w' ⟨rfl, rfl⟩; clear HP)
        go_ret
        exact ⟨rfl, rfl⟩
      · rw [decide_eq_false (by omega)]
        go_enter Tryd.func21, Tryd.ntmps21
        go_wp2_with (go_at_call 35; refine HP.out.mono ?_; rintro e w' ⟨rfl, rfl⟩; clear HP)
        go_ret
        exact ⟨by show Ending.returned (.bool (decide (a < P))) = _; rw [decide_eq_false (by omega)], rfl⟩
    · rw [decide_eq_false (by omega)]
      go_enter Tryd.func21, Tryd.ntmps21
      go_wp2_with (go_at_call 35; refine HP.out.mono ?_; rintro e w' ⟨rfl, rfl⟩; clear HP)
      go_ret
      exact ⟨rfl, rfl⟩
  · have hz : (if m = 8 then (285 : Int) else if m = 16 then 69643 else 0) = 0 := by rw [if_neg (by omega), if_neg (by omega)]
    rw [hz] at HP
    have hv : vd m a = false := by
      unfold vd
      apply decide_eq_false
      exact fun h => hm h.1
    rw [hv]
    clear hv hz hm
    go_enter Tryd.func21, Tryd.ntmps21
    go_wp2_with (go_at_call 35; refine HP.out.mono ?_; rintro e w' ⟨rfl, rfl⟩; clear HP)
    go_ret
    exact ⟨rfl, rfl⟩

theorem rem1_c (t : TypeId) (y : Nat) (h : y % 2 = 1) : binOp .rem t (.int .i64 (y : Int)) (.int .i64 2) = pure (.int .i64 1) := by
  have := nrem t y 2 (by decide)
  rw [h] at this
  exact this
theorem rem0_c (t : TypeId) (y : Nat) (h : ¬ y % 2 = 1) : binOp .rem t (.int .i64 (y : Int)) (.int .i64 2) = pure (.int .i64 0) := by
  have := nrem t y 2 (by decide)
  rw [show y % 2 = 0 by omega] at this
  exact this
theorem nquo2 (t : TypeId) (y : Nat) (h : y < 9223372036854775808) : binOp .quo t (.int .i64 (y : Int)) (.int .i64 2) = pure (.int .i64 ((y / 2 : Nat) : Int)) := nquo t y 2 (by decide) h
theorem nmul2 (t : TypeId) (y : Nat) (h : y < 4294967296) : binOp .mul t (.int .i64 2) (.int .i64 (y : Int)) = pure (.int .i64 ((2 * y : Nat) : Int)) := nmul t 2 y (by omega)

set_option maxHeartbeats 400000 in
theorem times_any (m a b : Nat) (hm : Fm m) (ha : a < 2 ^ m) (hb : b < 4294967296) (w : World) :
    Calls Tryd.prog 32 #[.int .i64 (m : Int), .int .i64 (a : Int), .int .i64 (b : Int)] w fun e w' => e = .returned (.int .i64 ((ml m a b : Nat) : Int)) ∧ w = w' := by
  have HM := hideIt hm
  have HA := hideIt ha
  have HB := hideIt hb
  have HPO := hideIt (rpoly_m hm w)
  have hshl := nshl_one 3 m (fm_le hm)
  obtain ⟨P, hP⟩ : ∃ P, P = 2 ^ m := ⟨_, rfl⟩
  rw [← hP] at hshl
  have HPP := hideIt hP
  obtain ⟨z, hz⟩ : ∃ z, z = ml m a b := ⟨_, rfl⟩
  rw [← hz]
  have HZ := hideIt hz
  have hpl : pol m ≤ 69643 := by unfold pol; split <;> omega
  obtain ⟨p, hp⟩ : ∃ p, p = pol m := ⟨_, rfl⟩
  rw [← hp] at HPO hpl
  have HP := hideIt hp
  have HPL := hideIt hpl
  clear hm ha hb hz hp hpl hP
  go_enter Tryd.func32, Tryd.ntmps32
  go_wp2_with (go_at_call 35; refine HPO.out.mono ?_; rintro e w' ⟨rfl, rfl⟩; clear HPO)
  go_loopg [1, 2, 8] b (fun g s1 s2 s8 wr => ∃ (x y s : Nat), y = g ∧ s1 = .int .i64 (x : Int) ∧ s2 = .int .i64 (y : Int) ∧ s8 = .int .i64 (s : Int) ∧ wr = w ∧ Aside (x < 2 ^ m ∧ s < 2 ^ m ∧ y ≤ b ∧ s ^^^ ml m x y = z))
  case atStart => exact ⟨a, b, 0, rfl, rfl, rfl, rfl, rfl, HA.out, Nat.two_pow_pos m, Nat.le_refl _, by rw [zx, HZ.out]⟩
  case round =>
    obtain ⟨x, y, s, rfl, rfl, rfl, rfl, rfl, HQ⟩ := hrel
    by_cases hy : 0 < y
    · obtain ⟨hx, hs, hyb, he⟩ := HQ.out
      have hbig := fm_big HM.out
      have hb := HB.out
      have hmul := nmul2 3 x (by omega)
      have hhalf := nquo2 3 y (by omega)
      have hpl := HPL.out
      have hxorA := nxor 3 s x (by omega) (by omega)
      have hxorB := nxor 3 (2 * x) p (by omega) (by omega)
      have hstp := xt_ref HM.out hx
      rw [← HP.out, ← HPP.out] at hstp
      have HN : Hid (xt m x < 2 ^ m ∧ (s ^^^ (x * (y % 2))) < 2 ^ m ∧ y / 2 ≤ b ∧ (s ^^^ (x * (y % 2))) ^^^ ml m (xt m x) (y / 2) = z ∧ y / 2 < y) :=
        hideIt ⟨xt_lt HM.out hx, step_lt HM.out y hs hx, by omega, by rw [xa, ← ml_step, he], by omega⟩
      have hyi : (0 : Int) < (y : Int) := by omega
      by_cases ho : y % 2 = 1
      · by_cases hge : P ≤ 2 * x
        ·
          have hrem := rem1_c 3 y ho
          rw [if_pos hge] at hstp
          have hgi : (P : Int) ≤ ((2 * x : Nat) : Int) := by omega
          have e0 : s ^^^ (x * (y % 2)) = s ^^^ x := by rw [ho]; simp
          rw [e0, ← hstp] at HN
          clear hx hs hyb he hbig hb hpl hstp HQ ho hge e0 HPP
          generalize s ^^^ x = s3 at *
          generalize 2 * x ^^^ p = x3 at *
          generalize y / 2 = y2 at *
          generalize 2 * x = x2 at *
          go_wp2_with fail
          go_roundg y2
          case measure => exact HN.out.2.2.2.2
          case rel => exact ⟨_, y2, _, rfl, rfl, rfl, rfl, rfl, HN.out.1, HN.out.2.1, HN.out.2.2.1, HN.out.2.2.2.1⟩
        ·
          have hrem := rem1_c 3 y ho
          rw [if_neg hge] at hstp
          have hgi : ¬ (P : Int) ≤ ((2 * x : Nat) : Int) := by omega
          have e0 : s ^^^ (x * (y % 2)) = s ^^^ x := by rw [ho]; simp
          rw [e0, ← hstp] at HN
          clear hx hs hyb he hbig hb hpl hstp HQ ho hge e0 HPP
          generalize s ^^^ x = s3 at *
          generalize y / 2 = y2 at *
          generalize 2 * x = x2 at *
          go_wp2_with fail
          go_roundg y2
          case measure => exact HN.out.2.2.2.2
          case rel => exact ⟨_, y2, _, rfl, rfl, rfl, rfl, rfl, HN.out.1, HN.out.2.1, HN.out.2.2.1, HN.out.2.2.2.1⟩
      · by_cases hge : P ≤ 2 * x
        ·
          have hrem := rem0_c 3 y ho
          rw [if_pos hge] at hstp
          have hgi : (P : Int) ≤ ((2 * x : Nat) : Int) := by omega
          have e0 : s ^^^ (x * (y % 2)) = s := by rw [show y % 2 = 0 by omega]; simp
          rw [e0, ← hstp] at HN
          clear hx hs hyb he hbig hb hpl hstp HQ ho hge e0 HPP
          generalize 2 * x ^^^ p = x3 at *
          generalize y / 2 = y2 at *
          generalize 2 * x = x2 at *
          go_wp2_with fail
          go_roundg y2
          case measure => exact HN.out.2.2.2.2
          case rel => exact ⟨_, y2, _, rfl, rfl, rfl, rfl, rfl, HN.out.1, HN.out.2.1, HN.out.2.2.1, HN.out.2.2.2.1⟩
        ·
          have hrem := rem0_c 3 y ho
          rw [if_neg hge] at hstp
          have hgi : ¬ (P : Int) ≤ ((2 * x : Nat) : Int) := by omega
          have e0 : s ^^^ (x * (y % 2)) = s := by rw [show y % 2 = 0 by omega]; simp
          rw [e0, ← hstp] at HN
          clear hx hs hyb he hbig hb hpl hstp HQ ho hge e0 HPP
          generalize y / 2 = y2 at *
          generalize 2 * x = x2 at *
          go_wp2_with fail
          go_roundg y2
          case measure => exact HN.out.2.2.2.2
          case rel => exact ⟨_, y2, _, rfl, rfl, rfl, rfl, rfl, HN.out.1, HN.out.2.1, HN.out.2.2.1, HN.out.2.2.2.1⟩
    · obtain rfl : y = 0 := by omega
      have HE : Hid (s = z) := hideIt (by rw [← HQ.out.2.2.2, ml_zero, xz])
      clear HQ
      go_wp2
      go_ret
      exact ⟨by rw [HE.out]; rfl, rfl⟩

theorem tim_any (m a b : Nat) (hm : Fm m) (ha : a < 2 ^ m) (hb : b < 2 ^ m) (w : World) :
    Calls Tryd.prog 32 #[.int .i64 (m : Int), .int .i64 (a : Int), .int .i64 (b : Int)] w fun e w' => e = .returned (.int .i64 ((mul m a b : Nat) : Int)) ∧ w = w' := by
  rw [← ml_mul m a b hb]
  exact times_any m a b hm ha (by have := fm_big hm; omega) w

set_option maxHeartbeats 400000 in
theorem radd_any (m a b : Int) (w : World) :
    Calls Tryd.prog 11 #[.int .i64 m, .int .i64 a, .int .i64 b] w fun e w' => e = .returned (nerr (addR m a b).1 (addR m a b).2) ∧ w = w' := by
  have HV1 := hideIt (rvalid_any m a w)
  have HV2 := hideIt (rvalid_any m b w)
  unfold addR nerr
  by_cases h1 : vd m a = true
  · by_cases h2 : vd m b = true
    · rw [if_pos ⟨h1, h2⟩]
      obtain ⟨k, x, rfl, rfl, hk, hx⟩ := vd_spec h1
      obtain ⟨k2, y, e, rfl, _, hy⟩ := vd_spec h2
      obtain rfl : k = k2 := by omega
      have hxor := nxor 3 x y (by have := fm_big hk; omega) (by have := fm_big hk; omega)
      rw [Int.toNat_natCast, Int.toNat_natCast]
      rw [h1] at HV1
      rw [h2] at HV2
      clear h1 h2 hx hy hk e
      generalize x ^^^ y = z at *
      go_enter Tryd.func11, Tryd.ntmps11
      go_wp2_with (first
        | (go_at_call 21; refine HV1.out.mono ?_; rintro e w' ⟨rfl, rfl⟩; clear HV1)
        | (go_at_call 21; refine HV2.out.mono ?_; rintro e w' ⟨rfl, rfl⟩; clear HV2)
        | (go_at_call 32; refine HP.out.mono ?_; rintro e w' ⟨rfl, rfl⟩; clear HP))
      go_ret2
      exact ⟨rfl, rfl⟩
    · rw [if_neg (fun h => h2 h.2)]
      rw [h1] at HV1
      rw [Bool.eq_false_iff.2 h2] at HV2
      clear h1 h2
      go_enter Tryd.func11, Tryd.ntmps11
      go_wp2_with (first
        | (go_at_call 21; refine HV1.out.mono ?_; rintro e w' ⟨rfl, rfl⟩; clear HV1)
        | (go_at_call 21; refine HV2.out.mono ?_; rintro e w' ⟨rfl, rfl⟩; clear HV2)
        | (go_at_call 32; refine HP.out.mono ?_; rintro e w' ⟨rfl, rfl⟩; clear HP))
      go_ret2
      exact ⟨rfl, rfl⟩
  · rw [if_neg (fun h => h1 h.1)]
    rw [Bool.eq_false_iff.2 h1] at HV1
    clear h1
    generalize vd m b = v2 at *
    go_enter Tryd.func11, Tryd.ntmps11
    go_wp2_with (first
      | (go_at_call 21; refine HV1.out.mono ?_; rintro e w' ⟨rfl, rfl⟩; clear HV1)
      | (go_at_call 21; refine HV2.out.mono ?_; rintro e w' ⟨rfl, rfl⟩; clear HV2)
      | (go_at_call 32; refine HP.out.mono ?_; rintro e w' ⟨rfl, rfl⟩; clear HP))
    go_ret2
    exact ⟨rfl, rfl⟩

set_option maxHeartbeats 400000 in
theorem rmul_any (m a b : Int) (w : World) :
    Calls Tryd.prog 13 #[.int .i64 m, .int .i64 a, .int .i64 b] w fun e w' => e = .returned (nerr (mlR m a b).1 (mlR m a b).2) ∧ w = w' := by
  have HV1 := hideIt (rvalid_any m a w)
  have HV2 := hideIt (rvalid_any m b w)
  unfold mlR nerr
  by_cases h1 : vd m a = true
  · by_cases h2 : vd m b = true
    · rw [if_pos ⟨h1, h2⟩]
      obtain ⟨k, x, rfl, rfl, hk, hx⟩ := vd_spec h1
      obtain ⟨k2, y, e, rfl, _, hy⟩ := vd_spec h2
      obtain rfl : k = k2 := by omega
      have HP := hideIt (tim_any k x y hk hx hy w)
      rw [Int.toNat_natCast, Int.toNat_natCast, Int.toNat_natCast]
      rw [h1] at HV1
      rw [h2] at HV2
      clear h1 h2 hx hy hk e
      generalize mul k x y = z at *
      go_enter Tryd.func13, Tryd.ntmps13
      go_wp2_with (first
        | (go_at_call 21; refine HV1.out.mono ?_; rintro e w' ⟨rfl, rfl⟩; clear HV1)
        | (go_at_call 21; refine HV2.out.mono ?_; rintro e w' ⟨rfl, rfl⟩; clear HV2)
        | (go_at_call 32; refine HP.out.mono ?_; rintro e w' ⟨rfl, rfl⟩; clear HP))
      go_ret2
      exact ⟨rfl, rfl⟩
    · rw [if_neg (fun h => h2 h.2)]
      rw [h1] at HV1
      rw [Bool.eq_false_iff.2 h2] at HV2
      clear h1 h2
      go_enter Tryd.func13, Tryd.ntmps13
      go_wp2_with (first
        | (go_at_call 21; refine HV1.out.mono ?_; rintro e w' ⟨rfl, rfl⟩; clear HV1)
        | (go_at_call 21; refine HV2.out.mono ?_; rintro e w' ⟨rfl, rfl⟩; clear HV2)
        | (go_at_call 32; refine HP.out.mono ?_; rintro e w' ⟨rfl, rfl⟩; clear HP))
      go_ret2
      exact ⟨rfl, rfl⟩
  · rw [if_neg (fun h => h1 h.1)]
    rw [Bool.eq_false_iff.2 h1] at HV1
    clear h1
    generalize vd m b = v2 at *
    go_enter Tryd.func13, Tryd.ntmps13
    go_wp2_with (first
      | (go_at_call 21; refine HV1.out.mono ?_; rintro e w' ⟨rfl, rfl⟩; clear HV1)
      | (go_at_call 21; refine HV2.out.mono ?_; rintro e w' ⟨rfl, rfl⟩; clear HV2)
      | (go_at_call 32; refine HP.out.mono ?_; rintro e w' ⟨rfl, rfl⟩; clear HP))
    go_ret2
    exact ⟨rfl, rfl⟩

set_option maxHeartbeats 400000 in
theorem rpower_any (m a N : Nat) (hm : Fm m) (ha : a < 2 ^ m) (hN : N < 4294967296) (w : World) :
    Calls Tryd.prog 33 #[.int .i64 (m : Int), .int .i64 (a : Int), .int .i64 (N : Int)] w fun e w' => e = .returned (.int .i64 ((pw m a N : Nat) : Int)) ∧ w = w' := by
  have HM := hideIt hm
  have hr : powLoop m 1 a N (pw m a N) := ⟨fm_one hm, ha, by rw [mul_oneL hm (pw_lt hm a _)]⟩
  have HR := hideIt hr
  have HNB := hideIt hN
  generalize pw m a N = r at *
  clear hm ha hN hr
  go_enter Tryd.func33, Tryd.ntmps33
  go_wp2
  go_loopg [1, 2, 7] N (fun g s1 s2 s7 wr => ∃ (x y s : Nat), y = g ∧ s1 = .int .i64 (x : Int) ∧ s2 = .int .i64 (y : Int) ∧ s7 = .int .i64 (s : Int) ∧ wr = w ∧ Aside (y ≤ N ∧ powLoop m s x y r))
  case atStart => exact ⟨a, N, 1, rfl, rfl, rfl, rfl, rfl, Nat.le_refl _, HR.out⟩
  case round =>
    obtain ⟨x, y, s, rfl, rfl, rfl, rfl, rfl, HQ⟩ := hrel
    by_cases hy : 0 < y
    · have hyi : (0 : Int) < (y : Int) := by omega
      have hyN := HQ.out.1
      have hNB := HNB.out
      have hx := HQ.out.2.2.1
      have hhalf := nquo2 3 y (by omega)
      have HSQ := hideIt (tim_any m x x HM.out hx hx wr)
      have HNX := hideIt (powLoop_next HM.out HQ.out.2)
      have HLT := hideIt (show y / 2 ≤ N ∧ y / 2 < y by omega)
      by_cases ho : y % 2 = 1
      · have hrem := rem1_c 3 y ho
        have HP1 := hideIt (tim_any m s x HM.out HQ.out.2.1 hx wr)
        have HNX := hideIt (by have := HNX.out; rw [if_pos ho] at this; exact this)
        clear hyN hNB hx HQ ho
        generalize mul m x x = x2 at *
        generalize mul m s x = s2 at *
        generalize y / 2 = y2 at *
        go_wp2_with (first
          | (go_at_call 32; refine HP1.out.mono ?_; rintro e w' ⟨rfl, rfl⟩; clear HP1)
          | (go_at_call 32; refine HSQ.out.mono ?_; rintro e w' ⟨rfl, rfl⟩; clear HSQ))
        go_roundg y2
        case measure => exact HLT.out.2
        case rel => exact ⟨x2, y2, s2, rfl, rfl, rfl, rfl, rfl, HLT.out.1, HNX.out⟩
      · have hrem := rem0_c 3 y ho
        have HNX := hideIt (by have := HNX.out; rw [if_neg ho] at this; exact this)
        clear hyN hNB hx HQ ho
        generalize mul m x x = x2 at *
        generalize y / 2 = y2 at *
        go_wp2_with (go_at_call 32; refine HSQ.out.mono ?_; rintro e w' ⟨rfl, rfl⟩; clear HSQ)
        go_roundg y2
        case measure => exact HLT.out.2
        case rel => exact ⟨x2, y2, s, rfl, rfl, rfl, rfl, rfl, HLT.out.1, HNX.out⟩
    · obtain rfl : y = 0 := by omega
      have HE : Hid (s = r) := hideIt (by have h := HQ.out.2.2.2; rw [show pw m x 0 = 1 from rfl, mul_oneR HM.out] at h; exact h)
      clear HQ
      go_wp2
      go_ret
      exact ⟨by rw [HE.out]; rfl, rfl⟩

theorem nsub_two (t : TypeId) (a : Nat) (h : 2 ≤ a) (ha : a < 9223372036854775808) : binOp .sub t (.int .i64 (a : Int)) (.int .i64 2) = pure (.int .i64 ((a - 2 : Nat) : Int)) := nsub t a 2 h ha
set_option maxHeartbeats 400000 in
theorem rinv_any (m a : Int) (w : World) :
    Calls Tryd.prog 15 #[.int .i64 m, .int .i64 a] w fun e w' => e = .returned (nerr (invR m a).1 (invR m a).2) ∧ w = w' := by
  have HV1 := hideIt (rvalid_any m a w)
  unfold invR powR nerr
  by_cases h1 : vd m a = true
  · rw [if_pos h1]
    obtain ⟨k, y, rfl, rfl, hk, hy⟩ := vd_spec h1
    rw [h1] at HV1
    by_cases h0 : (y : Int) = 0
    · rw [if_pos ⟨h0, by decide⟩]
      have hq := int_eqlT 3 h0
      clear h1 hy hk h0
      go_enter Tryd.func15, Tryd.ntmps15
      go_wp2_with (go_at_call 21; refine HV1.out.mono ?_; rintro e w' ⟨rfl, rfl⟩; clear HV1)
      go_ret2
      exact ⟨rfl, rfl⟩
    · rw [if_neg (fun h => h0 h.1), Int.toNat_natCast, Int.toNat_natCast, pwZ_inv hk hy (by omega)]
      have hq := int_eqlF 3 h0
      have hshl := nshl_one 3 k (fm_le hk)
      have hsub := nsub_two 3 (2 ^ k) (by have := fm_two hk; omega) (by have := fm_big hk; omega)
      have HP := hideIt (rpower_any k y (2 ^ k - 2) hk hy (by have := fm_big hk; omega) w)
      rw [show inv k y = pw k y (2 ^ k - 2) from rfl]
      generalize 2 ^ k - 2 = e2 at *
      generalize 2 ^ k = e1 at *
      generalize pw k y e2 = z at *
      clear h1 hk h0 hy
      go_enter Tryd.func15, Tryd.ntmps15
      go_wp2_with (first
        | (go_at_call 21; refine HV1.out.mono ?_; rintro e w' ⟨rfl, rfl⟩; clear HV1)
        | (go_at_call 33; refine HP.out.mono ?_; rintro e w' ⟨rfl, rfl⟩; clear HP))
      go_ret2
      exact ⟨rfl, rfl⟩
  · rw [if_neg h1]
    rw [Bool.eq_false_iff.2 h1] at HV1
    clear h1
    go_enter Tryd.func15, Tryd.ntmps15
    go_wp2_with (go_at_call 21; refine HV1.out.mono ?_; rintro e w' ⟨rfl, rfl⟩; clear HV1)
    go_ret2
    exact ⟨rfl, rfl⟩

theorem divR_bad {m a b : Int} (h1 : vd m a = true) (h2 : ¬ vd m b = true) : divR m a b = (0, 1) := by
  unfold divR invR powR
  rw [if_pos h1, if_neg h2]
  rfl
set_option maxHeartbeats 400000 in
theorem rdiv_any (m a b : Int) (w : World) :
    Calls Tryd.prog 17 #[.int .i64 m, .int .i64 a, .int .i64 b] w fun e w' => e = .returned (nerr (divR m a b).1 (divR m a b).2) ∧ w = w' := by
  have HV1 := hideIt (rvalid_any m a w)
  have HV2 := hideIt (rvalid_any m b w)
  have HI := hideIt (rinv_any m b w)
  by_cases h1 : vd m a = true
  · by_cases h2 : vd m b = true
    · unfold divR
      rw [if_pos h1]
      obtain ⟨k, y, rfl, rfl, hk, hy⟩ := vd_spec h1
      rw [h1] at HV1
      rw [h2] at HV2
      have hlt := invR_lt k b hk
      have herr := invR_err k b
      clear h2
      generalize (invR (k : Int) b).1 = x at *
      generalize (invR (k : Int) b).2 = e0 at *
      by_cases h0 : e0 = 0
      · subst h0
        rw [if_pos rfl, Int.toNat_natCast, Int.toNat_natCast]
        have HP := hideIt (tim_any k y x hk hy hlt w)
        generalize mul k y x = z at *
        unfold nerr at *
        clear h1 hy hk hlt herr
        go_enter Tryd.func17, Tryd.ntmps17
        go_wp2_with (first
          | (go_at_call 21; refine HV1.out.mono ?_; rintro e w' ⟨rfl, rfl⟩; clear HV1)
          | (go_at_call 21; refine HV2.out.mono ?_; rintro e w' ⟨rfl, rfl⟩; clear HV2)
          | (go_at_call 15; refine HI.out.mono ?_; rintro e w' ⟨rfl, rfl⟩; clear HI)
          | (go_at_call 32; refine HP.out.mono ?_; rintro e w' ⟨rfl, rfl⟩; clear HP))
        go_ret2
        exact ⟨rfl, rfl⟩
      · rw [if_neg h0]
        have hne : (e0 != 0) = true := by simpa using h0
        unfold nerr at *
        clear h1 hy hk hlt herr
        go_enter Tryd.func17, Tryd.ntmps17
        go_wp2_with (first
          | (go_at_call 21; refine HV1.out.mono ?_; rintro e w' ⟨rfl, rfl⟩; clear HV1)
          | (go_at_call 21; refine HV2.out.mono ?_; rintro e w' ⟨rfl, rfl⟩; clear HV2)
          | (go_at_call 15; refine HI.out.mono ?_; rintro e w' ⟨rfl, rfl⟩; clear HI))
        go_ret2
        exact ⟨rfl, rfl⟩
    · rw [divR_bad h1 h2]
      rw [h1] at HV1
      rw [Bool.eq_false_iff.2 h2] at HV2
      unfold nerr
      clear h1 h2 HI
      go_enter Tryd.func17, Tryd.ntmps17
      go_wp2_with (first
        | (go_at_call 21; refine HV1.out.mono ?_; rintro e w' ⟨rfl, rfl⟩; clear HV1)
        | (go_at_call 21; refine HV2.out.mono ?_; rintro e w' ⟨rfl, rfl⟩; clear HV2))
      go_ret2
      exact ⟨rfl, rfl⟩
  · unfold divR
    rw [if_neg h1]
    rw [Bool.eq_false_iff.2 h1] at HV1
    unfold nerr
    clear h1 HI
    generalize vd m b = v2 at *
    go_enter Tryd.func17, Tryd.ntmps17
    go_wp2_with (first
      | (go_at_call 21; refine HV1.out.mono ?_; rintro e w' ⟨rfl, rfl⟩; clear HV1)
      | (go_at_call 21; refine HV2.out.mono ?_; rintro e w' ⟨rfl, rfl⟩; clear HV2))
    go_ret2
    exact ⟨rfl, rfl⟩

theorem nremzz (t : TypeId) (n c : Int) (hc : c ≠ 0) : binOp .rem t (.int .i64 n) (.int .i64 c) = pure (.int .i64 (n.tmod c)) := by
  rw [binOp_rem]
  simp only [Op.intDiv]
  rw [if_neg (by simpa using hc)]
set_option maxHeartbeats 1000000 in
theorem rpow_any (m a x : Int) (h64 : -9223372036854775808 ≤ x ∧ x ≤ 9223372036854775807) (w : World) :
    Calls Tryd.prog 19 #[.int .i64 m, .int .i64 a, .int .i64 x] w fun e w' => e = .returned (nerr (powR m a x).1 (powR m a x).2) ∧ w = w' := by
  have HV1 := hideIt (rvalid_any m a w)
  unfold powR nerr
  by_cases h1 : vd m a = true
  · rw [if_pos h1]
    obtain ⟨k, y, rfl, rfl, hk, hy⟩ := vd_spec h1
    rw [h1] at HV1
    by_cases h2 : (y : Int) = 0 ∧ x < 0
    · rw [if_pos h2]
      obtain ⟨h0, h3⟩ := h2
      have hq := int_eqlT 3 h0
      clear h1 hy hk h0
      go_enter Tryd.func19, Tryd.ntmps19
      go_wp2_with (go_at_call 21; refine HV1.out.mono ?_; rintro e w' ⟨rfl, rfl⟩; clear HV1)
      go_ret2
      exact ⟨rfl, rfl⟩
    rw [if_neg h2, Int.toNat_natCast, Int.toNat_natCast]
    by_cases h3 : (y : Int) = 0 ∧ 0 < x
    · obtain ⟨h0, h3⟩ := h3
      have hy0 : y = 0 := by omega
      have hz : pwZ k y x = 0 := by rw [hy0]; exact pwZ_zero k x h3
      rw [hz]
      have hq := int_eqlT 3 h0
      have h4 : ¬ x < 0 := by omega
      clear h1 hy hk h0 h2 hy0 hz
      go_enter Tryd.func19, Tryd.ntmps19
      go_wp2_with (go_at_call 21; refine HV1.out.mono ?_; rintro e w' ⟨rfl, rfl⟩; clear HV1)
      go_ret2
      exact ⟨rfl, rfl⟩
    have hpw : pwZ k y x = pw k y (cls k x) := by
      by_cases h0 : y = 0
      · have hx : x = 0 := by omega
        rw [h0, hx]
        have e1 : cls k 0 = 0 := by unfold cls; simp
        rw [e1]; rfl
      · exact pwZ_cls hk hy h0 x
    have hcl := cls_lt hk x
    have hqm := qm_pos hk
    have hbig := fm_big hk
    have HP := hideIt (rpower_any k y (cls k x) hk hy (by omega) w)
    rw [← hpw] at HP
    generalize pwZ k y x = z at *
    obtain ⟨r1, r2⟩ := ref_ex hk x
    have hshl := nshl_one 3 k (fm_le hk)
    have hsub := nsub_one 3 (2 ^ k) (by omega) (by omega)
    rw [show 2 ^ k - 1 = qm k from rfl] at hsub
    have hrem := nremz 3 x (qm k) (by omega)
    have hrem2 := nremz 3 (x.tmod (qm k : Int) + (qm k : Int)) (qm k) (by omega)
    have e3 : (x.tmod (qm k : Int) + (qm k : Int)).tmod (qm k : Int) = (cls k x : Int) := by omega
    rw [e3] at hrem2
    have hadd : binOp .add 3 (.int .i64 (x.tmod (qm k : Int))) (.int .i64 (qm k : Int)) = pure (.int .i64 (x.tmod (qm k : Int) + (qm k : Int))) := by
      rw [binOp_add]
      simp only [Op.intArith]
      have hb : -65536 < x.tmod (qm k : Int) ∧ x.tmod (qm k : Int) < 65536 := by
        have h5 := Int.tmod_lt_of_pos x (show (0 : Int) < (qm k : Int) by omega)
        have h6 := Int.lt_tmod_of_pos x (show (0 : Int) < (qm k : Int) by omega)
        omega
      rw [IntWalk.i64_in _ (by omega)]
    clear hpw hcl hqm hbig r1 r2 e3 h1 hy hk
    generalize cls k x = c at *
    generalize qm k = q at *
    generalize 2 ^ k = P at *
    generalize x.tmod (q : Int) = u at *
    generalize u + (q : Int) = u2 at *
    by_cases h0 : (y : Int) = 0
    · have hq := int_eqlT 3 h0
      have h4 : ¬ x < 0 := fun h => h2 ⟨h0, h⟩
      have h5 : ¬ 0 < x := fun h => h3 ⟨h0, h⟩
      clear h0 h2 h3
      go_enter Tryd.func19, Tryd.ntmps19
      go_wp2_with (first
        | (go_at_call 21; refine HV1.out.mono ?_; rintro e w' ⟨rfl, rfl⟩; clear HV1)
        | (go_at_call 33; refine HP.out.mono ?_; rintro e w' ⟨rfl, rfl⟩; clear HP))
      go_ret2
      exact ⟨rfl, rfl⟩
    · have hq := int_eqlF 3 h0
      clear h0 h2 h3
      go_enter Tryd.func19, Tryd.ntmps19
      go_wp2_with (first
        | (go_at_call 21; refine HV1.out.mono ?_; rintro e w' ⟨rfl, rfl⟩; clear HV1)
        | (go_at_call 33; refine HP.out.mono ?_; rintro e w' ⟨rfl, rfl⟩; clear HP))
      go_ret2
      exact ⟨rfl, rfl⟩
  · rw [if_neg h1]
    rw [Bool.eq_false_iff.2 h1] at HV1
    clear h1
    go_enter Tryd.func19, Tryd.ntmps19
    go_wp2_with (go_at_call 21; refine HV1.out.mono ?_; rintro e w' ⟨rfl, rfl⟩; clear HV1)
    go_ret2
    exact ⟨rfl, rfl⟩

end Go.Proofs.YtihepogccgcfkaaDoor
