/-
  The field's functions on elements, walked: Add, Mul, Pow, Inv, Div, Log.
-/
import Derived.Test.YtpjgmekpnlpjaaaDoorFldP
namespace Go.Proofs.YtpjgmekpnlpjaaaDoor
open Go.RowKit
set_option linter.unusedVariables false

/-- Two results, a number and an error. -/
abbrev nerr (x : Nat) (e : Int) : Value := .tuple #[.int .i64 (x : Int), .int .i64 e]
def addR (m a b : Int) : Nat × Int := if vd m a = true ∧ vd m b = true then (a.toNat ^^^ b.toNat, 0) else (0, 1)
def mlR (m a b : Int) : Nat × Int := if vd m a = true ∧ vd m b = true then (mul m.toNat a.toNat b.toNat, 0) else (0, 1)
def powR (m a n : Int) : Nat × Int := if vd m a = true then (if a = 0 ∧ n < 0 then (0, 12) else (pwZ m.toNat a.toNat n, 0)) else (0, 1)
def invR (m a : Int) : Nat × Int := powR m a (-1)
def divR (m a b : Int) : Nat × Int := if vd m a = true then (if (invR m b).2 = 0 then (mul m.toNat a.toNat (invR m b).1, 0) else (0, (invR m b).2)) else (0, 1)
noncomputable def logR (m a : Int) : Nat × Int := if vd m a = true then (if a = 0 then (0, 12) else (lg m.toNat a.toNat, 0)) else (0, 1)

theorem valid_dr (m a : Int) (w : World) (hT : Tabs w) (n : Nat) : Calls Tryd.prog 45 #[.int .i64 m, .int .i64 a] (w.drewN n) fun e w' => e = .returned (.bool (vd m a)) ∧ w.drewN n = w' := valid_any m a _ (hT.drewN n)

set_option maxHeartbeats 400000 in
theorem add_any (m a b : Int) (w : World) (hT : Tabs w) (n : Nat) :
    Calls Tryd.prog 80 #[.int .i64 m, .int .i64 a, .int .i64 b] (w.drewN n) fun e w' => e = .returned (nerr (addR m a b).1 (addR m a b).2) ∧ ∃ k, w' = w.drewN k := by
  have HV1 := hideIt (valid_dr m a w hT n)
  have HV2 := hideIt (valid_dr m b w hT n)
  unfold addR nerr
  by_cases h1 : vd m a = true
  · by_cases h2 : vd m b = true
    · rw [if_pos ⟨h1, h2⟩]
      obtain ⟨k, x, rfl, rfl, hk, hx⟩ := vd_spec h1
      obtain ⟨k2, y, e, rfl, _, hy⟩ := vd_spec h2
      obtain rfl : k = k2 := by omega
      have hxor := nxor 3 x y (by have := fm_big hk; omega) (by have := fm_big hk; omega)
      rw [Int.toNat_natCast, Int.toNat_natCast]
      rw [h1] at HV1
      rw [h2] at HV2
      clear hT h1 h2 hx hy hk e
      generalize x ^^^ y = z at *
      go_enter Tryd.func80, Tryd.ntmps80
      go_wp2_with (first
        | (go_at_call 45; refine HV1.out.mono ?_; rintro e w' ⟨rfl, rfl⟩; clear HV1)
        | (go_at_call 45; refine HV2.out.mono ?_; rintro e w' ⟨rfl, rfl⟩; clear HV2))
      go_ret2
      exact ⟨rfl, _, rfl⟩
    · rw [if_neg (fun h => h2 h.2)]
      rw [h1] at HV1
      rw [Bool.eq_false_iff.2 h2] at HV2
      clear hT h1 h2
      go_enter Tryd.func80, Tryd.ntmps80
      go_wp2_with (first
        | (go_at_call 45; refine HV1.out.mono ?_; rintro e w' ⟨rfl, rfl⟩; clear HV1)
        | (go_at_call 45; refine HV2.out.mono ?_; rintro e w' ⟨rfl, rfl⟩; clear HV2))
      go_ret2
      exact ⟨rfl, _, rfl⟩
  · rw [if_neg (fun h => h1 h.1)]
    rw [Bool.eq_false_iff.2 h1] at HV1
    clear hT h1 HV2
    go_enter Tryd.func80, Tryd.ntmps80
    go_wp2_with (go_at_call 45; refine HV1.out.mono ?_; rintro e w' ⟨rfl, rfl⟩; clear HV1)
    go_ret2
    exact ⟨rfl, _, rfl⟩

set_option maxHeartbeats 400000 in
theorem mul_any (m a b : Int) (w : World) (hT : Tabs w) (n : Nat) :
    Calls Tryd.prog 79 #[.int .i64 m, .int .i64 a, .int .i64 b] (w.drewN n) fun e w' => e = .returned (nerr (mlR m a b).1 (mlR m a b).2) ∧ ∃ k, w' = w.drewN k := by
  have HV1 := hideIt (valid_dr m a w hT n)
  have HV2 := hideIt (valid_dr m b w hT n)
  unfold mlR nerr
  by_cases h1 : vd m a = true
  · by_cases h2 : vd m b = true
    · rw [if_pos ⟨h1, h2⟩]
      obtain ⟨k, x, rfl, rfl, hk, hx⟩ := vd_spec h1
      obtain ⟨k2, y, e, rfl, _, hy⟩ := vd_spec h2
      obtain rfl : k = k2 := by omega
      have HP := hideIt (prod_any k x y hk hx hy w hT n)
      rw [Int.toNat_natCast, Int.toNat_natCast, Int.toNat_natCast]
      rw [h1] at HV1
      rw [h2] at HV2
      clear hT h1 h2 hx hy hk e
      generalize mul k x y = z at *
      go_enter Tryd.func79, Tryd.ntmps79
      go_wp2_with (first
        | (go_at_call 45; refine HV1.out.mono ?_; rintro e w' ⟨rfl, rfl⟩; clear HV1)
        | (go_at_call 45; refine HV2.out.mono ?_; rintro e w' ⟨rfl, rfl⟩; clear HV2)
        | (go_at_call 76; refine HP.out.mono ?_; rintro e w' ⟨rfl, n2, rfl⟩; clear HP))
      go_ret2
      exact ⟨rfl, _, rfl⟩
    · rw [if_neg (fun h => h2 h.2)]
      rw [h1] at HV1
      rw [Bool.eq_false_iff.2 h2] at HV2
      clear hT h1 h2
      go_enter Tryd.func79, Tryd.ntmps79
      go_wp2_with (first
        | (go_at_call 45; refine HV1.out.mono ?_; rintro e w' ⟨rfl, rfl⟩; clear HV1)
        | (go_at_call 45; refine HV2.out.mono ?_; rintro e w' ⟨rfl, rfl⟩; clear HV2))
      go_ret2
      exact ⟨rfl, _, rfl⟩
  · rw [if_neg (fun h => h1 h.1)]
    rw [Bool.eq_false_iff.2 h1] at HV1
    clear hT h1 HV2
    go_enter Tryd.func79, Tryd.ntmps79
    go_wp2_with (go_at_call 45; refine HV1.out.mono ?_; rintro e w' ⟨rfl, rfl⟩; clear HV1)
    go_ret2
    exact ⟨rfl, _, rfl⟩

theorem int_eqlF (t : TypeId) {a b : Int} (h : a ≠ b) : binOp .eql t (.int .i64 a) (.int .i64 b) = pure (.bool false) := by
  rw [binOp_eql, beq_eq_false_iff_ne.2 h]
theorem int_eqlT (t : TypeId) {a b : Int} (h : a = b) : binOp .eql t (.int .i64 a) (.int .i64 b) = pure (.bool true) := by
  rw [binOp_eql, h]; simp

set_option maxHeartbeats 400000 in
theorem pow_any (m a x : Int) (h64 : -9223372036854775808 ≤ x ∧ x ≤ 9223372036854775807) (w : World) (hT : Tabs w) (n : Nat) :
    Calls Tryd.prog 85 #[.int .i64 m, .int .i64 a, .int .i64 x] (w.drewN n) fun e w' => e = .returned (nerr (powR m a x).1 (powR m a x).2) ∧ ∃ k, w' = w.drewN k := by
  have HV1 := hideIt (valid_dr m a w hT n)
  unfold powR nerr
  by_cases h1 : vd m a = true
  · rw [if_pos h1]
    obtain ⟨k, y, rfl, rfl, hk, hy⟩ := vd_spec h1
    rw [h1] at HV1
    by_cases h2 : (y : Int) = 0 ∧ x < 0
    · rw [if_pos h2]
      obtain ⟨h0, h3⟩ := h2
      have hq := int_eqlT 3 h0
      clear hT h1 hy hk h0
      go_enter Tryd.func85, Tryd.ntmps85
      go_wp2_with (go_at_call 45; refine HV1.out.mono ?_; rintro e w' ⟨rfl, rfl⟩; clear HV1)
      go_ret2
      exact ⟨rfl, _, rfl⟩
    · rw [if_neg h2, Int.toNat_natCast, Int.toNat_natCast]
      have HP := hideIt (power_any k y x hk hy h64 w hT n)
      generalize pwZ k y x = z at *
      by_cases h0 : (y : Int) = 0
      · have hq := int_eqlT 3 h0
        have h3 : ¬ x < 0 := fun h => h2 ⟨h0, h⟩
        clear hT h1 hy hk h0 h2
        go_enter Tryd.func85, Tryd.ntmps85
        go_wp2_with (first
          | (go_at_call 45; refine HV1.out.mono ?_; rintro e w' ⟨rfl, rfl⟩; clear HV1)
          | (go_at_call 87; refine HP.out.mono ?_; rintro e w' ⟨rfl, n2, rfl⟩; clear HP))
        go_ret2
        exact ⟨rfl, _, rfl⟩
      · have hq := int_eqlF 3 h0
        clear hT h1 hy hk h0 h2
        go_enter Tryd.func85, Tryd.ntmps85
        go_wp2_with (first
          | (go_at_call 45; refine HV1.out.mono ?_; rintro e w' ⟨rfl, rfl⟩; clear HV1)
          | (go_at_call 87; refine HP.out.mono ?_; rintro e w' ⟨rfl, n2, rfl⟩; clear HP))
        go_ret2
        exact ⟨rfl, _, rfl⟩
  · rw [if_neg h1]
    rw [Bool.eq_false_iff.2 h1] at HV1
    clear hT h1
    go_enter Tryd.func85, Tryd.ntmps85
    go_wp2_with (go_at_call 45; refine HV1.out.mono ?_; rintro e w' ⟨rfl, rfl⟩; clear HV1)
    go_ret2
    exact ⟨rfl, _, rfl⟩

set_option maxHeartbeats 400000 in
theorem inv_any (m a : Int) (w : World) (hT : Tabs w) (n : Nat) :
    Calls Tryd.prog 81 #[.int .i64 m, .int .i64 a] (w.drewN n) fun e w' => e = .returned (nerr (invR m a).1 (invR m a).2) ∧ ∃ k, w' = w.drewN k := by
  have HP := hideIt (pow_any m a (-1) (by omega) w hT n)
  unfold invR
  generalize (powR m a (-1)).1 = x at *
  generalize (powR m a (-1)).2 = y at *
  unfold nerr at *
  clear hT
  go_enter Tryd.func81, Tryd.ntmps81
  go_wp2_with (go_at_call 85; refine HP.out.mono ?_; rintro e w' ⟨rfl, n2, rfl⟩; clear HP)
  go_ret2
  exact ⟨rfl, _, rfl⟩

theorem invR_lt (m : Nat) (b : Int) (hm : Fm m) : (invR (m : Int) b).1 < 2 ^ m := by
  unfold invR powR
  split
  · split
    · exact Nat.two_pow_pos m
    · rw [Int.toNat_natCast]; exact pwZ_lt hm _ _
  · exact Nat.two_pow_pos m
theorem invR_err (m b : Int) : (invR m b).2 = 0 ∨ (invR m b).2 = 1 ∨ (invR m b).2 = 12 := by
  unfold invR powR
  split
  · split <;> simp
  · simp
end Go.Proofs.YtpjgmekpnlpjaaaDoor
