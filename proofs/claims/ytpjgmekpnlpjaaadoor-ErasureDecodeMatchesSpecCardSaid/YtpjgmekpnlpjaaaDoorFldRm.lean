/-
  The reference of layer 5, walked: polynomials, elements, products.
-/
import Derived.Test.YtpjgmekpnlpjaaaDoorFldF
namespace Go.Proofs.YtpjgmekpnlpjaaaDoor
open Go.RowKit
set_option linter.unusedVariables false

theorem rpoly_any (m : Int) (w : World) :
    Calls Tryd.prog 68 #[.int .i64 m] w fun e w' => e = .returned (.int .i64 (if m = 8 then 285 else if m = 16 then 69643 else 0)) ∧ w = w' := by
  by_cases h8 : m = 8
  · subst h8
    go_enter Tryd.func68, Tryd.ntmps68
    go_wp2_with fail
    go_ret
    exact ⟨rfl, rfl⟩
  by_cases h16 : m = 16
  · subst h16
    go_enter Tryd.func68, Tryd.ntmps68
    go_wp2_with fail
    go_ret
    exact ⟨rfl, rfl⟩
  rw [if_neg h8, if_neg h16]
  have e8 := int_eqlF 3 h8
  have e16 := int_eqlF 3 h16
  clear h8 h16
  go_enter Tryd.func68, Tryd.ntmps68
  go_wp2_with fail
  go_ret
  exact ⟨rfl, rfl⟩
theorem rpoly_m {m : Nat} (hm : Fm m) (w : World) : Calls Tryd.prog 68 #[.int .i64 (m : Int)] w fun e w' => e = .returned (.int .i64 (pol m : Nat)) ∧ w = w' := by
  refine (rpoly_any m w).mono ?_
  rintro e w' ⟨rfl, rfl⟩
  rcases hm with rfl | rfl <;> exact ⟨rfl, rfl⟩
set_option maxHeartbeats 400000 in
theorem rvalid_any (m a : Int) (w : World) :
    Calls Tryd.prog 47 #[.int .i64 m, .int .i64 a] w fun e w' => e = .returned (.bool (vd m a)) ∧ w = w' := by
  have HP := hideIt (rpoly_any m w)
  by_cases hm : m = 8 ∨ m = 16
  · have hne : (if m = 8 then (285 : Int) else if m = 16 then 69643 else 0) ≠ 0 := by split; decide; split; decide; omega
    generalize (if m = 8 then (285 : Int) else if m = 16 then 69643 else 0) = p at *
    have hv : vd m a = decide (0 ≤ a ∧ a < 2 ^ m.toNat) := by
      unfold vd
      apply decide_eq_decide.2
      exact ⟨fun h => h.2, fun h => ⟨hm, h⟩⟩
    have hshl : binOp .shl 3 (.int .i64 1) (.int .i64 m) = pure (.int .i64 (2 ^ m.toNat)) := by
      rcases hm with rfl | rfl
      · exact nshl_one 3 8 (by decide)
      · exact nshl_one 3 16 (by decide)
    generalize (2 : Int) ^ m.toNat = P at *
    have hpne : binOp .neq 3 (.int .i64 p) (.int .i64 0) = pure (.bool true) := by
      rw [binOp_neq]
      have h2 : (p != 0) = true := by rw [bne_iff_ne]; exact hne
      rw [h2]
    rw [hv]
    clear hv hm hne
    by_cases h0 : 0 ≤ a
    · by_cases h1 : a < P
      · rw [decide_eq_true ⟨h0, h1⟩]
        go_enter Tryd.func47, Tryd.ntmps47
        go_wp2_with (go_at_call 68; refine HP.out.mono ?_; rintro e w' ⟨rfl, rfl⟩; clear HP)
        go_ret
        exact ⟨rfl, rfl⟩
      · rw [decide_eq_false (by omega)]
        go_enter Tryd.func47, Tryd.ntmps47
        go_wp2_with (go_at_call 68; refine HP.out.mono ?_; rintro e w' ⟨rfl, rfl⟩; clear HP)
        go_ret
        exact ⟨by show Ending.returned (.bool (decide (a < P))) = _; rw [decide_eq_false (by omega)], rfl⟩
    · rw [decide_eq_false (by omega)]
      go_enter Tryd.func47, Tryd.ntmps47
      go_wp2_with (go_at_call 68; refine HP.out.mono ?_; rintro e w' ⟨rfl, rfl⟩; clear HP)
      go_ret
      exact ⟨rfl, rfl⟩
  · have hz : (if m = 8 then (285 : Int) else if m = 16 then 69643 else 0) = 0 := by rw [if_neg (by omega), if_neg (by omega)]
    rw [hz] at HP
    have hv : vd m a = false := by
      unfold vd
      apply decide_eq_false
      exact fun h => hm h.1
    rw [hv]
    clear hv hz hm
    go_enter Tryd.func47, Tryd.ntmps47
    go_wp2_with (go_at_call 68; refine HP.out.mono ?_; rintro e w' ⟨rfl, rfl⟩; clear HP)
    go_ret
    exact ⟨rfl, rfl⟩
theorem rem1_c (t : TypeId) (y : Nat) (h : y % 2 = 1) : binOp .rem t (.int .i64 (y : Int)) (.int .i64 2) = pure (.int .i64 1) := by
  have := nrem t y 2 (by decide)
  rw [h] at this
  exact this
theorem rem0_c (t : TypeId) (y : Nat) (h : ¬ y % 2 = 1) : binOp .rem t (.int .i64 (y : Int)) (.int .i64 2) = pure (.int .i64 0) := by
  have := nrem t y 2 (by decide)
  rw [show y % 2 = 0 by omega] at this
  exact this
theorem nquo2 (t : TypeId) (y : Nat) (h : y < 9223372036854775808) : binOp .quo t (.int .i64 (y : Int)) (.int .i64 2) = pure (.int .i64 ((y / 2 : Nat) : Int)) := nquo t y 2 (by decide) h
theorem nmul2 (t : TypeId) (y : Nat) (h : y < 4294967296) : binOp .mul t (.int .i64 2) (.int .i64 (y : Int)) = pure (.int .i64 ((2 * y : Nat) : Int)) := nmul t 2 y (by omega)
set_option maxHeartbeats 400000 in
theorem times_any (m a b : Nat) (hm : Fm m) (ha : a < 2 ^ m) (hb : b < 4294967296) (w : World) :
    Calls Tryd.prog 57 #[.int .i64 (m : Int), .int .i64 (a : Int), .int .i64 (b : Int)] w fun e w' => e = .returned (.int .i64 ((ml m a b : Nat) : Int)) ∧ w = w' := by
  have HM := hideIt hm
  have HA := hideIt ha
  have HB := hideIt hb
  have HPO := hideIt (rpoly_m hm w)
  have hshl := nshl_one 3 m (fm_le hm)
  obtain ⟨P, hP⟩ : ∃ P, P = 2 ^ m := ⟨_, rfl⟩
  rw [← hP] at hshl
  have HPP := hideIt hP
  obtain ⟨z, hz⟩ : ∃ z, z = ml m a b := ⟨_, rfl⟩
  rw [← hz]
  have HZ := hideIt hz
  have hpl : pol m ≤ 69643 := by unfold pol; split <;> omega
  obtain ⟨p, hp⟩ : ∃ p, p = pol m := ⟨_, rfl⟩
  rw [← hp] at HPO hpl
  have HP := hideIt hp
  have HPL := hideIt hpl
  clear hm ha hb hz hp hpl hP
  go_enter Tryd.func57, Tryd.ntmps57
  go_wp2_with (go_at_call 68; refine HPO.out.mono ?_; rintro e w' ⟨rfl, rfl⟩; clear HPO)
  go_loopg [1, 2, 8] b (fun g s1 s2 s8 wr => ∃ (x y s : Nat), y = g ∧ s1 = .int .i64 (x : Int) ∧ s2 = .int .i64 (y : Int) ∧ s8 = .int .i64 (s : Int) ∧ wr = w ∧ Aside (x < 2 ^ m ∧ s < 2 ^ m ∧ y ≤ b ∧ s ^^^ ml m x y = z))
  case atStart => exact ⟨a, b, 0, rfl, rfl, rfl, rfl, rfl, HA.out, Nat.two_pow_pos m, Nat.le_refl _, by rw [zx, HZ.out]⟩
  case round =>
    obtain ⟨x, y, s, rfl, rfl, rfl, rfl, rfl, HQ⟩ := hrel
    by_cases hy : 0 < y
    · obtain ⟨hx, hs, hyb, he⟩ := HQ.out
      have hbig := fm_big HM.out
      have hb := HB.out
      have hmul := nmul2 3 x (by omega)
      have hhalf := nquo2 3 y (by omega)
      have hpl := HPL.out
      have hxorA := nxor 3 s x (by omega) (by omega)
      have hxorB := nxor 3 (2 * x) p (by omega) (by omega)
      have hstp := xt_ref HM.out hx
      rw [← HP.out, ← HPP.out] at hstp
      have HN : Hid (xt m x < 2 ^ m ∧ (s ^^^ (x * (y % 2))) < 2 ^ m ∧ y / 2 ≤ b ∧ (s ^^^ (x * (y % 2))) ^^^ ml m (xt m x) (y / 2) = z ∧ y / 2 < y) :=
        hideIt ⟨xt_lt HM.out hx, step_lt HM.out y hs hx, by omega, by rw [xa, ← ml_step, he], by omega⟩
      have hyi : (0 : Int) < (y : Int) := by omega
      by_cases ho : y % 2 = 1
      · by_cases hge : P ≤ 2 * x
        ·
          have hrem := rem1_c 3 y ho
          rw [if_pos hge] at hstp
          have hgi : (P : Int) ≤ ((2 * x : Nat) : Int) := by omega
          have e0 : s ^^^ (x * (y % 2)) = s ^^^ x := by rw [ho]; simp
          rw [e0, ← hstp] at HN
          clear hx hs hyb he hbig hb hpl hstp HQ ho hge e0 HPP
          generalize s ^^^ x = s3 at *
          generalize 2 * x ^^^ p = x3 at *
          generalize y / 2 = y2 at *
          generalize 2 * x = x2 at *
          go_wp2_with fail
          go_roundg y2
          case measure => exact HN.out.2.2.2.2
          case rel => exact ⟨_, y2, _, rfl, rfl, rfl, rfl, rfl, HN.out.1, HN.out.2.1, HN.out.2.2.1, HN.out.2.2.2.1⟩
        ·
          have hrem := rem1_c 3 y ho
          rw [if_neg hge] at hstp
          have hgi : ¬ (P : Int) ≤ ((2 * x : Nat) : Int) := by omega
          have e0 : s ^^^ (x * (y % 2)) = s ^^^ x := by rw [ho]; simp
          rw [e0, ← hstp] at HN
          clear hx hs hyb he hbig hb hpl hstp HQ ho hge e0 HPP
          generalize s ^^^ x = s3 at *
          generalize y / 2 = y2 at *
          generalize 2 * x = x2 at *
          go_wp2_with fail
          go_roundg y2
          case measure => exact HN.out.2.2.2.2
          case rel => exact ⟨_, y2, _, rfl, rfl, rfl, rfl, rfl, HN.out.1, HN.out.2.1, HN.out.2.2.1, HN.out.2.2.2.1⟩
      · by_cases hge : P ≤ 2 * x
        ·
          have hrem := rem0_c 3 y ho
          rw [if_pos hge] at hstp
          have hgi : (P : Int) ≤ ((2 * x : Nat) : Int) := by omega
          have e0 : s ^^^ (x * (y % 2)) = s := by rw [show y % 2 = 0 by omega]; simp
          rw [e0, ← hstp] at HN
          clear hx hs hyb he hbig hb hpl hstp HQ ho hge e0 HPP
          generalize 2 * x ^^^ p = x3 at *
          generalize y / 2 = y2 at *
          generalize 2 * x = x2 at *
          go_wp2_with fail
          go_roundg y2
          case measure => exact HN.out.2.2.2.2
          case rel => exact ⟨_, y2, _, rfl, rfl, rfl, rfl, rfl, HN.out.1, HN.out.2.1, HN.out.2.2.1, HN.out.2.2.2.1⟩
        ·
          have hrem := rem0_c 3 y ho
          rw [if_neg hge] at hstp
          have hgi : ¬ (P : Int) ≤ ((2 * x : Nat) : Int) := by omega
          have e0 : s ^^^ (x * (y % 2)) = s := by rw [show y % 2 = 0 by omega]; simp
          rw [e0, ← hstp] at HN
          clear hx hs hyb he hbig hb hpl hstp HQ ho hge e0 HPP
          generalize y / 2 = y2 at *
          generalize 2 * x = x2 at *
          go_wp2_with fail
          go_roundg y2
          case measure => exact HN.out.2.2.2.2
          case rel => exact ⟨_, y2, _, rfl, rfl, rfl, rfl, rfl, HN.out.1, HN.out.2.1, HN.out.2.2.1, HN.out.2.2.2.1⟩
    · obtain rfl : y = 0 := by omega
      have HE : Hid (s = z) := hideIt (by rw [← HQ.out.2.2.2, ml_zero, xz])
      clear HQ
      go_wp2
      go_ret
      exact ⟨by rw [HE.out]; rfl, rfl⟩
theorem tim_any (m a b : Nat) (hm : Fm m) (ha : a < 2 ^ m) (hb : b < 2 ^ m) (w : World) :
    Calls Tryd.prog 57 #[.int .i64 (m : Int), .int .i64 (a : Int), .int .i64 (b : Int)] w fun e w' => e = .returned (.int .i64 ((mul m a b : Nat) : Int)) ∧ w = w' := by
  rw [← ml_mul m a b hb]
  exact times_any m a b hm ha (by have := fm_big hm; omega) w
set_option maxHeartbeats 400000 in
theorem rmul_any (m a b : Int) (w : World) :
    Calls Tryd.prog 39 #[.int .i64 m, .int .i64 a, .int .i64 b] w fun e w' => e = .returned (nerr (mlR m a b).1 (mlR m a b).2) ∧ w = w' := by
  have HV1 := hideIt (rvalid_any m a w)
  have HV2 := hideIt (rvalid_any m b w)
  unfold mlR nerr
  by_cases h1 : vd m a = true
  · by_cases h2 : vd m b = true
    · rw [if_pos ⟨h1, h2⟩]
      obtain ⟨k, x, rfl, rfl, hk, hx⟩ := vd_spec h1
      obtain ⟨k2, y, e, rfl, _, hy⟩ := vd_spec h2
      obtain rfl : k = k2 := by omega
      have HP := hideIt (tim_any k x y hk hx hy w)
      rw [Int.toNat_natCast, Int.toNat_natCast, Int.toNat_natCast]
      rw [h1] at HV1
      rw [h2] at HV2
      clear h1 h2 hx hy hk e
      generalize mul k x y = z at *
      go_enter Tryd.func39, Tryd.ntmps39
      go_wp2_with (first
        | (go_at_call 47; refine HV1.out.mono ?_; rintro e w' ⟨rfl, rfl⟩; clear HV1)
        | (go_at_call 47; refine HV2.out.mono ?_; rintro e w' ⟨rfl, rfl⟩; clear HV2)
        | (go_at_call 57; refine HP.out.mono ?_; rintro e w' ⟨rfl, rfl⟩; clear HP))
      go_ret2
      exact ⟨rfl, rfl⟩
    · rw [if_neg (fun h => h2 h.2)]
      rw [h1] at HV1
      rw [Bool.eq_false_iff.2 h2] at HV2
      clear h1 h2
      go_enter Tryd.func39, Tryd.ntmps39
      go_wp2_with (first
        | (go_at_call 47; refine HV1.out.mono ?_; rintro e w' ⟨rfl, rfl⟩; clear HV1)
        | (go_at_call 47; refine HV2.out.mono ?_; rintro e w' ⟨rfl, rfl⟩; clear HV2)
        | (go_at_call 57; refine HP.out.mono ?_; rintro e w' ⟨rfl, rfl⟩; clear HP))
      go_ret2
      exact ⟨rfl, rfl⟩
  · rw [if_neg (fun h => h1 h.1)]
    rw [Bool.eq_false_iff.2 h1] at HV1
    clear h1
    generalize vd m b = v2 at *
    go_enter Tryd.func39, Tryd.ntmps39
    go_wp2_with (first
      | (go_at_call 47; refine HV1.out.mono ?_; rintro e w' ⟨rfl, rfl⟩; clear HV1)
      | (go_at_call 47; refine HV2.out.mono ?_; rintro e w' ⟨rfl, rfl⟩; clear HV2)
      | (go_at_call 57; refine HP.out.mono ?_; rintro e w' ⟨rfl, rfl⟩; clear HP))
    go_ret2
    exact ⟨rfl, rfl⟩

end Go.Proofs.YtpjgmekpnlpjaaaDoor
