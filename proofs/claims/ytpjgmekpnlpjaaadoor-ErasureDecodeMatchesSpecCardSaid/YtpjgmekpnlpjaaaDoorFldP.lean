/-
  The field's product, power and search, walked.
-/
import Derived.Test.YtpjgmekpnlpjaaaDoorFldW
namespace Go.Proofs.YtpjgmekpnlpjaaaDoor
open Go.RowKit
set_option linter.unusedVariables false

theorem bit_le (a b : Nat) : a * (b % 2) ≤ a := by
  rcases Nat.mod_two_eq_zero_or_one b with h | h <;> rw [h]
  · omega
  · omega
theorem nshl1 (t : TypeId) (a : Nat) (h : a < 4294967296) : binOp .shl t (.int .i64 (a : Int)) (.int .u64 1) = pure (.int .i64 ((2 * a : Nat) : Int)) := by
  have e : a * 2 ^ 1 = 2 * a := by omega
  have := nshl t (k := .u64) a 1 (by omega) h
  rw [e] at this
  exact this
theorem nshr1 (t : TypeId) (a : Nat) (h : a < 9223372036854775808) : binOp .shr t (.int .i64 (a : Int)) (.int .u64 1) = pure (.int .i64 ((a / 2 : Nat) : Int)) :=
  nshr t (k := .u64) a 1 (by omega) h

set_option maxHeartbeats 400000 in
theorem product_any (m a b : Nat) (hm : Fm m) (ha : a < 2 ^ m) (hb : b < 4294967296) (w : World) (hT : Tabs w) :
    Calls Tryd.prog 76 #[.int .i64 (m : Int), .int .i64 (a : Int), .int .i64 (b : Int)] w fun e w' => e = .returned (.int .i64 ((ml m a b : Nat) : Int)) ∧ ∃ n, w' = w.drewN n := by
  have hcell := hT.at_m hm
  have hm0 : (0 : Int) ≤ (m : Int) := by omega
  have hm17 : (m : Int) < 17 := by have := fm_le hm; omega
  have HM := hideIt hm
  have HA := hideIt ha
  have HB := hideIt hb
  obtain ⟨z, hz⟩ : ∃ z, z = ml m a b := ⟨_, rfl⟩
  rw [← hz]
  have HZ := hideIt hz
  have hpl : pol m ≤ 69643 := by unfold pol; split <;> omega
  obtain ⟨p, hp⟩ : ∃ p, p = pol m := ⟨_, rfl⟩
  rw [← hp] at hcell hpl
  have HP := hideIt hp
  have HPL := hideIt hpl
  clear hT hm ha hb hz hp hpl
  go_enter Tryd.func76, Tryd.ntmps76
  go_wp2
  go_loopg [1, 2, 7] b (fun g s1 s2 s7 wr => ∃ (x y s n : Nat), y = g ∧ s1 = .int .i64 (x : Int) ∧ s2 = .int .i64 (y : Int) ∧ s7 = .int .i64 (s : Int) ∧ wr = w.drewN n ∧ Aside (x < 2 ^ m ∧ s < 2 ^ m ∧ y ≤ b ∧ s ^^^ ml m x y = z))
  case atStart => exact ⟨a, b, 0, 0, rfl, rfl, rfl, rfl, rfl, HA.out, Nat.two_pow_pos m, Nat.le_refl _, by rw [zx, HZ.out]⟩
  case round =>
    obtain ⟨x, y, s, n, rfl, rfl, rfl, rfl, rfl, HQ⟩ := hrel
    by_cases hy : 0 < y
    · obtain ⟨hx, hs, hyb, he⟩ := HQ.out
      have hbig := fm_big HM.out
      have hb := HB.out
      have hand := nand1 3 y (by omega)
      have hle := bit_le x y
      have hmul := nmul 3 x (y % 2) (by omega)
      have hxor := nxor 3 s (x * (y % 2)) (by omega) (by omega)
      have hshl := nshl1 3 x (by omega)
      have hshr := nshr 3 (k := .i64) (2 * x) m (by have := fm_le HM.out; omega) (by omega)
      have hsm : 2 * x / 2 ^ m ≤ 1 := by
        have : 2 * x / 2 ^ m < 2 := by rw [Nat.div_lt_iff_lt_mul (Nat.two_pow_pos m)]; omega
        omega
      have hpl := HPL.out
      have hpm : p * (2 * x / 2 ^ m) ≤ p * 1 := Nat.mul_le_mul_left p hsm
      have hmul2 := nmul 3 p (2 * x / 2 ^ m) (by omega)
      have hxor2 := nxor 3 (2 * x) (p * (2 * x / 2 ^ m)) (by omega) (by omega)
      have hstp := xt_prog HM.out hx
      rw [← HP.out] at hstp
      rw [hstp] at hxor2
      have hhalf := nshr1 3 y (by omega)
      have HN : Hid (xt m x < 2 ^ m ∧ (s ^^^ (x * (y % 2))) < 2 ^ m ∧ y / 2 ≤ b ∧ (s ^^^ (x * (y % 2))) ^^^ ml m (xt m x) (y / 2) = z ∧ y / 2 < y) :=
        hideIt ⟨xt_lt HM.out hx, step_lt HM.out y hs hx, by omega, by rw [xa, ← ml_step, he], by omega⟩
      have hyi : (0 : Int) < (y : Int) := by omega
      clear hx hs hyb he hbig hb hle hsm hpl hpm hstp HQ
      generalize xt m x = x3 at *
      generalize s ^^^ (x * (y % 2)) = s2 at *
      generalize p * (2 * x / 2 ^ m) = v3 at *
      generalize 2 * x / 2 ^ m = v2 at *
      generalize x * (y % 2) = v1 at *
      generalize y % 2 = v0 at *
      generalize 2 * x = x2 at *
      generalize y / 2 = y2 at *
      obtain ⟨W, hW⟩ : ∃ W, W = w.drewN n := ⟨_, rfl⟩
      go_wp2
      go_quiet (fail)
      go_wp2
      go_roundg y2
      case measure => exact HN.out.2.2.2.2
      case rel => exact ⟨x3, y2, s2, _, rfl, rfl, rfl, rfl, rfl, HN.out.1, HN.out.2.1, HN.out.2.2.1, HN.out.2.2.2.1⟩
    · obtain rfl : y = 0 := by omega
      have HE : Hid (s = z) := hideIt (by rw [← HQ.out.2.2.2, ml_zero, xz])
      clear HQ
      go_wp2
      go_ret
      exact ⟨by rw [HE.out]; rfl, _, rfl⟩

theorem inc_c (t : TypeId) (k : Nat) (h : k ≤ 200000) : binOp .add t (.int .i64 (k : Int)) (.int .i64 1) = pure (.int .i64 ((k + 1 : Nat) : Int)) := nadd t k 1 (by omega)
theorem Tabs.drewN {w : World} (h : Tabs w) (n : Nat) : Tabs (w.drewN n) := h.keep (below_drewN (Below.refl _ _) n)
theorem prod_any (m a b : Nat) (hm : Fm m) (ha : a < 2 ^ m) (hb : b < 2 ^ m) (w : World) (hT : Tabs w) (n : Nat) :
    Calls Tryd.prog 76 #[.int .i64 (m : Int), .int .i64 (a : Int), .int .i64 (b : Int)] (w.drewN n) fun e w' => e = .returned (.int .i64 ((mul m a b : Nat) : Int)) ∧ ∃ k, w' = w.drewN k := by
  rw [← ml_mul m a b hb]
  refine (product_any m a b hm ha (by have := fm_big hm; omega) (w.drewN n) (hT.drewN n)).mono ?_
  rintro e w' ⟨rfl, k, rfl⟩
  exact ⟨rfl, n + k, World.drewN_drewN _ _ _⟩
theorem neqT (t : TypeId) {a b : Nat} (h : a ≠ b) : binOp .neq t (.int .i64 (a : Int)) (.int .i64 (b : Int)) = pure (.bool true) := by
  rw [binOp_neq]
  have h2 : ((a : Int) != (b : Int)) = true := by rw [bne_iff_ne]; omega
  rw [h2]
theorem neqF (t : TypeId) (a : Nat) : binOp .neq t (.int .i64 (a : Int)) (.int .i64 (a : Int)) = pure (.bool false) := by
  rw [binOp_neq]
  have h2 : ((a : Int) != (a : Int)) = false := by simp
  rw [h2]

theorem nshl_one (t : TypeId) (m : Nat) (hm : m ≤ 16) : binOp .shl t (.int .i64 1) (.int .i64 (m : Int)) = pure (.int .i64 ((2 ^ m : Nat) : Int)) := by
  have := nshl t (k := .i64) 1 m (by omega) (by omega)
  rw [Nat.one_mul] at this
  exact this
theorem nsub_one (t : TypeId) (a : Nat) (h : 1 ≤ a) (ha : a < 9223372036854775808) : binOp .sub t (.int .i64 (a : Int)) (.int .i64 1) = pure (.int .i64 ((a - 1 : Nat) : Int)) := nsub t a 1 h ha
theorem odd_c (t : TypeId) (y : Nat) (hy : y < 9223372036854775808) (h : y % 2 = 1) : binOp .and t (.int .i64 (y : Int)) (.int .i64 1) = pure (.int .i64 1) := by rw [nand1 t y hy, h]; rfl
theorem even_c (t : TypeId) (y : Nat) (hy : y < 9223372036854775808) (h : ¬ y % 2 = 1) : binOp .and t (.int .i64 (y : Int)) (.int .i64 1) = pure (.int .i64 0) := by rw [nand1 t y hy, show y % 2 = 0 by omega]; rfl

/-- The power's loop, from any exponent that is not negative. -/
def powLoop (m p a y r : Nat) : Prop := p < 2 ^ m ∧ a < 2 ^ m ∧ mul m p (pw m a y) = r
theorem powLoop_next {m p a y r : Nat} (hm : Fm m) (h : powLoop m p a y r) : powLoop m (if y % 2 = 1 then mul m p a else p) (mul m a a) (y / 2) r := by
  obtain ⟨h1, h2, h3⟩ := h
  refine ⟨by split; exact mul_lt hm a h1; exact h1, mul_lt hm a h2, ?_⟩
  rw [fp_step hm h1 h2, h3]

set_option maxHeartbeats 1000000 in
theorem power_any (m a : Nat) (n : Int) (hm : Fm m) (ha : a < 2 ^ m) (h64 : -9223372036854775808 ≤ n ∧ n ≤ 9223372036854775807) (w : World) (hT : Tabs w) (n0 : Nat) :
    Calls Tryd.prog 87 #[.int .i64 (m : Int), .int .i64 (a : Int), .int .i64 n] (w.drewN n0) fun e w' => e = .returned (.int .i64 ((pwZ m a n : Nat) : Int)) ∧ ∃ k, w' = w.drewN k := by
  have HT := hideIt hT
  have HM := hideIt hm
  have HA := hideIt ha
  obtain ⟨q, hq⟩ : ∃ q, q = qm m := ⟨_, rfl⟩
  obtain ⟨N, hN⟩ : ∃ N, N = ex m n := ⟨_, rfl⟩
  have hNb : N < 9223372036854775808 := by
    rw [hN]
    unfold ex
    split
    · rw [tmod_neg n _ (by assumption)]
      rcases qm_lit hm with ⟨rfl, h, _⟩ | ⟨rfl, h, _⟩ <;> rw [h] <;> omega
    · omega
  have hr : powLoop m 1 a N (pwZ m a n) := ⟨fm_one hm, ha, by unfold pwZ; rw [← hN, mul_oneL hm (pw_lt hm a _)]⟩
  have hshl := nshl_one 3 m (fm_le hm)
  have hsub := nsub_one 3 (2 ^ m) (by have := fm_one hm; omega) (by have := fm_big hm; omega)
  have hq2 : 2 ^ m - 1 = q := by rw [hq]; rfl
  rw [hq2] at hsub
  have hqp : 0 < q ∧ q < 65536 := by rw [hq]; rcases qm_lit hm with ⟨rfl, h, _⟩ | ⟨rfl, h, _⟩ <;> rw [h] <;> omega
  have hrem := nremz 3 n q hqp.1
  have hadd : n < 0 → binOp .add 3 (.int .i64 (n.tmod (q : Int))) (.int .i64 (q : Int)) = pure (.int .i64 (N : Int)) := fun hneg => by
    rw [binOp_add]
    simp only [Op.intArith]
    have e : n.tmod (q : Int) + (q : Int) = (N : Int) := by
      rw [hN]
      unfold ex
      rw [if_pos hneg, ← hq, tmod_neg n _ hneg]
      have := Nat.mod_lt (-n).toNat hqp.1
      omega
    rw [e, IntWalk.i64_in _ (by omega)]
  have hpos : ¬ n < 0 → n = (N : Int) := fun hneg => by
    rw [hN]; unfold ex; rw [if_neg hneg]; omega
  have HNB := hideIt hNb
  have HR := hideIt hr
  generalize pwZ m a n = r at *
  clear hT hm ha hq hN hNb hr hq2 hqp
  generalize hpw : 2 ^ m = P at hshl hsub
  clear hpw
  go_enter Tryd.func87, Tryd.ntmps87
  by_cases hneg : n < 0
  · have hadd := hadd hneg
    clear hpos
    generalize n.tmod (q : Int) = nq at *
    go_wp2
    go_quiet (fail)
    go_wp2
    go_loopg [1, 2, 7] N (fun g s1 s2 s7 wr => ∃ (x y s k : Nat), y = g ∧ s1 = .int .i64 (x : Int) ∧ s2 = .int .i64 (y : Int) ∧ s7 = .int .i64 (s : Int) ∧ wr = w.drewN k ∧ Aside (y ≤ N ∧ powLoop m s x y r))
    case atStart => exact ⟨a, N, 1, _, rfl, rfl, rfl, rfl, World.drewN_drewN _ _ _, Nat.le_refl _, HR.out⟩
    case round =>
      obtain ⟨x, y, s, k, rfl, rfl, rfl, rfl, rfl, HQ⟩ := hrel
      by_cases hy : 0 < y
      · have hyi : (0 : Int) < (y : Int) := by omega
        have hyN := HQ.out.1
        have hNB := HNB.out
        have hx := HQ.out.2.2.1
        have hhalf := nshr1 3 y (by omega)
        have HSQ := hideIt (fun n2 => prod_any m x x HM.out hx hx w HT.out n2)
        have HNX := hideIt (powLoop_next HM.out HQ.out.2)
        have HLT := hideIt (show y / 2 ≤ N ∧ y / 2 < y by omega)
        by_cases ho : y % 2 = 1
        · have hand := odd_c 3 y (by omega) ho
          have HP1 := hideIt (fun n2 => prod_any m s x HM.out HQ.out.2.1 hx w HT.out n2)
          have HNX := hideIt (by have := HNX.out; rw [if_pos ho] at this; exact this)
          clear hyN hNB hx HQ ho
          generalize mul m x x = x2 at *
          generalize mul m s x = s2 at *
          generalize y / 2 = y2 at *
          go_wp2_with (first
            | (go_at_call 76; refine (HP1.out _).mono ?_; rintro e w' ⟨rfl, n2, rfl⟩; clear HP1)
            | (go_at_call 76; refine (HSQ.out _).mono ?_; rintro e w' ⟨rfl, n3, rfl⟩; clear HSQ))
          go_roundg y2
          case measure => exact HLT.out.2
          case rel => exact ⟨x2, y2, s2, _, rfl, rfl, rfl, rfl, rfl, HLT.out.1, HNX.out⟩
        · have hand := even_c 3 y (by omega) ho
          have HNX := hideIt (by have := HNX.out; rw [if_neg ho] at this; exact this)
          clear hyN hNB hx HQ ho
          generalize mul m x x = x2 at *
          generalize y / 2 = y2 at *
          go_wp2_with (go_at_call 76; refine (HSQ.out _).mono ?_; rintro e w' ⟨rfl, n3, rfl⟩; clear HSQ)
          go_roundg y2
          case measure => exact HLT.out.2
          case rel => exact ⟨x2, y2, s, _, rfl, rfl, rfl, rfl, rfl, HLT.out.1, HNX.out⟩
      · obtain rfl : y = 0 := by omega
        have HE : Hid (s = r) := hideIt (by have h := HQ.out.2.2.2; rw [show pw m x 0 = 1 from rfl, mul_oneR HM.out] at h; exact h)
        clear HQ
        go_wp2
        go_ret
        exact ⟨by rw [HE.out]; rfl, _, rfl⟩
  · obtain rfl := hpos hneg
    clear hpos hadd
    go_wp2
    go_loopg [1, 2, 7] N (fun g s1 s2 s7 wr => ∃ (x y s k : Nat), y = g ∧ s1 = .int .i64 (x : Int) ∧ s2 = .int .i64 (y : Int) ∧ s7 = .int .i64 (s : Int) ∧ wr = w.drewN k ∧ Aside (y ≤ N ∧ powLoop m s x y r))
    case atStart => exact ⟨a, N, 1, _, rfl, rfl, rfl, rfl, rfl, Nat.le_refl _, HR.out⟩
    case round =>
      obtain ⟨x, y, s, k, rfl, rfl, rfl, rfl, rfl, HQ⟩ := hrel
      by_cases hy : 0 < y
      · have hyi : (0 : Int) < (y : Int) := by omega
        have hyN := HQ.out.1
        have hNB := HNB.out
        have hx := HQ.out.2.2.1
        have hhalf := nshr1 3 y (by omega)
        have HSQ := hideIt (fun n2 => prod_any m x x HM.out hx hx w HT.out n2)
        have HNX := hideIt (powLoop_next HM.out HQ.out.2)
        have HLT := hideIt (show y / 2 ≤ N ∧ y / 2 < y by omega)
        by_cases ho : y % 2 = 1
        · have hand := odd_c 3 y (by omega) ho
          have HP1 := hideIt (fun n2 => prod_any m s x HM.out HQ.out.2.1 hx w HT.out n2)
          have HNX := hideIt (by have := HNX.out; rw [if_pos ho] at this; exact this)
          clear hyN hNB hx HQ ho
          generalize mul m x x = x2 at *
          generalize mul m s x = s2 at *
          generalize y / 2 = y2 at *
          go_wp2_with (first
            | (go_at_call 76; refine (HP1.out _).mono ?_; rintro e w' ⟨rfl, n2, rfl⟩; clear HP1)
            | (go_at_call 76; refine (HSQ.out _).mono ?_; rintro e w' ⟨rfl, n3, rfl⟩; clear HSQ))
          go_roundg y2
          case measure => exact HLT.out.2
          case rel => exact ⟨x2, y2, s2, _, rfl, rfl, rfl, rfl, rfl, HLT.out.1, HNX.out⟩
        · have hand := even_c 3 y (by omega) ho
          have HNX := hideIt (by have := HNX.out; rw [if_neg ho] at this; exact this)
          clear hyN hNB hx HQ ho
          generalize mul m x x = x2 at *
          generalize y / 2 = y2 at *
          go_wp2_with (go_at_call 76; refine (HSQ.out _).mono ?_; rintro e w' ⟨rfl, n3, rfl⟩; clear HSQ)
          go_roundg y2
          case measure => exact HLT.out.2
          case rel => exact ⟨x2, y2, s, _, rfl, rfl, rfl, rfl, rfl, HLT.out.1, HNX.out⟩
      · obtain rfl : y = 0 := by omega
        have HE : Hid (s = r) := hideIt (by have h := HQ.out.2.2.2; rw [show pw m x 0 = 1 from rfl, mul_oneR HM.out] at h; exact h)
        clear HQ
        go_wp2
        go_ret
        exact ⟨by rw [HE.out]; rfl, _, rfl⟩

end Go.Proofs.YtpjgmekpnlpjaaaDoor
