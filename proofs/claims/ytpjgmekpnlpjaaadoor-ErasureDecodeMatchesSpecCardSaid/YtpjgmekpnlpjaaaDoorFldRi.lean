/-
  The reference of layer 5, walked: powers, inverses.
-/
import Derived.Test.YtpjgmekpnlpjaaaDoorFldRm
namespace Go.Proofs.YtpjgmekpnlpjaaaDoor
open Go.RowKit
set_option linter.unusedVariables false

set_option maxHeartbeats 400000 in
theorem rpower_any (m a N : Nat) (hm : Fm m) (ha : a < 2 ^ m) (hN : N < 4294967296) (w : World) :
    Calls Tryd.prog 88 #[.int .i64 (m : Int), .int .i64 (a : Int), .int .i64 (N : Int)] w fun e w' => e = .returned (.int .i64 ((pw m a N : Nat) : Int)) ∧ w = w' := by
  have HM := hideIt hm
  have hr : powLoop m 1 a N (pw m a N) := ⟨fm_one hm, ha, by rw [mul_oneL hm (pw_lt hm a _)]⟩
  have HR := hideIt hr
  have HNB := hideIt hN
  generalize pw m a N = r at *
  clear hm ha hN hr
  go_enter Tryd.func88, Tryd.ntmps88
  go_wp2
  go_loopg [1, 2, 7] N (fun g s1 s2 s7 wr => ∃ (x y s : Nat), y = g ∧ s1 = .int .i64 (x : Int) ∧ s2 = .int .i64 (y : Int) ∧ s7 = .int .i64 (s : Int) ∧ wr = w ∧ Aside (y ≤ N ∧ powLoop m s x y r))
  case atStart => exact ⟨a, N, 1, rfl, rfl, rfl, rfl, rfl, Nat.le_refl _, HR.out⟩
  case round =>
    obtain ⟨x, y, s, rfl, rfl, rfl, rfl, rfl, HQ⟩ := hrel
    by_cases hy : 0 < y
    · have hyi : (0 : Int) < (y : Int) := by omega
      have hyN := HQ.out.1
      have hNB := HNB.out
      have hx := HQ.out.2.2.1
      have hhalf := nquo2 3 y (by omega)
      have HSQ := hideIt (tim_any m x x HM.out hx hx wr)
      have HNX := hideIt (powLoop_next HM.out HQ.out.2)
      have HLT := hideIt (show y / 2 ≤ N ∧ y / 2 < y by omega)
      by_cases ho : y % 2 = 1
      · have hrem := rem1_c 3 y ho
        have HP1 := hideIt (tim_any m s x HM.out HQ.out.2.1 hx wr)
        have HNX := hideIt (by have := HNX.out; rw [if_pos ho] at this; exact this)
        clear hyN hNB hx HQ ho
        generalize mul m x x = x2 at *
        generalize mul m s x = s2 at *
        generalize y / 2 = y2 at *
        go_wp2_with (first
          | (go_at_call 57; refine HP1.out.mono ?_; rintro e w' ⟨rfl, rfl⟩; clear HP1)
          | (go_at_call 57; refine HSQ.out.mono ?_; rintro e w' ⟨rfl, rfl⟩; clear HSQ))
        go_roundg y2
        case measure => exact HLT.out.2
        case rel => exact ⟨x2, y2, s2, rfl, rfl, rfl, rfl, rfl, HLT.out.1, HNX.out⟩
      · have hrem := rem0_c 3 y ho
        have HNX := hideIt (by have := HNX.out; rw [if_neg ho] at this; exact this)
        clear hyN hNB hx HQ ho
        generalize mul m x x = x2 at *
        generalize y / 2 = y2 at *
        go_wp2_with (go_at_call 57; refine HSQ.out.mono ?_; rintro e w' ⟨rfl, rfl⟩; clear HSQ)
        go_roundg y2
        case measure => exact HLT.out.2
        case rel => exact ⟨x2, y2, s, rfl, rfl, rfl, rfl, rfl, HLT.out.1, HNX.out⟩
    · obtain rfl : y = 0 := by omega
      have HE : Hid (s = r) := hideIt (by have h := HQ.out.2.2.2; rw [show pw m x 0 = 1 from rfl, mul_oneR HM.out] at h; exact h)
      clear HQ
      go_wp2
      go_ret
      exact ⟨by rw [HE.out]; rfl, rfl⟩
theorem nsub_two (t : TypeId) (a : Nat) (h : 2 ≤ a) (ha : a < 9223372036854775808) : binOp .sub t (.int .i64 (a : Int)) (.int .i64 2) = pure (.int .i64 ((a - 2 : Nat) : Int)) := nsub t a 2 h ha
set_option maxHeartbeats 400000 in
theorem rinv_any (m a : Int) (w : World) :
    Calls Tryd.prog 86 #[.int .i64 m, .int .i64 a] w fun e w' => e = .returned (nerr (invR m a).1 (invR m a).2) ∧ w = w' := by
  have HV1 := hideIt (rvalid_any m a w)
  unfold invR powR nerr
  by_cases h1 : vd m a = true
  · rw [if_pos h1]
    obtain ⟨k, y, rfl, rfl, hk, hy⟩ := vd_spec h1
    rw [h1] at HV1
    by_cases h0 : (y : Int) = 0
    · rw [if_pos ⟨h0, by decide⟩]
      have hq := int_eqlT 3 h0
      clear h1 hy hk h0
      go_enter Tryd.func86, Tryd.ntmps86
      go_wp2_with (go_at_call 47; refine HV1.out.mono ?_; rintro e w' ⟨rfl, rfl⟩; clear HV1)
      go_ret2
      exact ⟨rfl, rfl⟩
    · rw [if_neg (fun h => h0 h.1), Int.toNat_natCast, Int.toNat_natCast, pwZ_inv hk hy (by omega)]
      have hq := int_eqlF 3 h0
      have hshl := nshl_one 3 k (fm_le hk)
      have hsub := nsub_two 3 (2 ^ k) (by have := fm_two hk; omega) (by have := fm_big hk; omega)
      have HP := hideIt (rpower_any k y (2 ^ k - 2) hk hy (by have := fm_big hk; omega) w)
      rw [show inv k y = pw k y (2 ^ k - 2) from rfl]
      generalize 2 ^ k - 2 = e2 at *
      generalize 2 ^ k = e1 at *
      generalize pw k y e2 = z at *
      clear h1 hk h0 hy
      go_enter Tryd.func86, Tryd.ntmps86
      go_wp2_with (first
        | (go_at_call 47; refine HV1.out.mono ?_; rintro e w' ⟨rfl, rfl⟩; clear HV1)
        | (go_at_call 88; refine HP.out.mono ?_; rintro e w' ⟨rfl, rfl⟩; clear HP))
      go_ret2
      exact ⟨rfl, rfl⟩
  · rw [if_neg h1]
    rw [Bool.eq_false_iff.2 h1] at HV1
    clear h1
    go_enter Tryd.func86, Tryd.ntmps86
    go_wp2_with (go_at_call 47; refine HV1.out.mono ?_; rintro e w' ⟨rfl, rfl⟩; clear HV1)
    go_ret2
    exact ⟨rfl, rfl⟩

end Go.Proofs.YtpjgmekpnlpjaaaDoor
