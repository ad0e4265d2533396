/-
  The fields with 2^8 and 2^16 elements: powers with whole exponents, logarithms by two short searches; one step of the program and of the reference. No program stands behind this text.
-/
import Derived.Test.YtpjgmekpnlpjaaaDoorFldB
namespace Go.Proofs.YtpjgmekpnlpjaaaDoor
set_option linter.unusedVariables false
set_option linter.unusedSimpArgs false

/-- The power with a whole exponent: the exponent that the program takes. -/
def ex (m : Nat) (n : Int) : Nat := if n < 0 then (n.tmod (qm m : Int) + (qm m : Int)).toNat else n.toNat
def pwZ (m a : Nat) (n : Int) : Nat := pw m a (ex m n)
theorem tmod_neg (n : Int) (q : Nat) (h : n < 0) : n.tmod (q : Int) = -(((-n).toNat % q : Nat) : Int) := by
  obtain ⟨k, rfl⟩ : ∃ k : Nat, n = -(k : Int) := ⟨(-n).toNat, by omega⟩
  rw [Int.neg_tmod, Int.neg_neg, Int.toNat_natCast]
  rw [Int.tmod_eq_emod_of_nonneg (by omega)]
  rfl
/-- The exponent's class. -/
def cls (m : Nat) (n : Int) : Nat := (n % (qm m : Int)).toNat
theorem ex_mod {m : Nat} (hm : Fm m) (n : Int) : ex m n % qm m = cls m n := by
  unfold ex cls
  by_cases h : n < 0
  · rw [if_pos h, tmod_neg n _ h]
    rcases qm_lit hm with ⟨rfl, hq, _⟩ | ⟨rfl, hq, _⟩ <;> rw [hq] <;> omega
  · rw [if_neg h]
    rcases qm_lit hm with ⟨rfl, hq, _⟩ | ⟨rfl, hq, _⟩ <;> rw [hq] <;> omega
theorem cls_lt {m : Nat} (hm : Fm m) (n : Int) : cls m n < qm m := by
  unfold cls
  rcases qm_lit hm with ⟨rfl, hq, _⟩ | ⟨rfl, hq, _⟩ <;> rw [hq] <;> omega
theorem pwZ_cls {m : Nat} (hm : Fm m) {a : Nat} (ha : a < 2 ^ m) (h0 : a ≠ 0) (n : Int) : pwZ m a n = pw m a (cls m n) := by
  unfold pwZ
  rw [pw_mod hm ha h0, ex_mod hm]
theorem pwZ_lt {m : Nat} (hm : Fm m) (a : Nat) (n : Int) : pwZ m a n < 2 ^ m := pw_lt hm a _
theorem pwZ_ne {m : Nat} (hm : Fm m) {a : Nat} (ha : a < 2 ^ m) (h0 : a ≠ 0) (n : Int) : pwZ m a n ≠ 0 := pw_ne hm ha h0 _
theorem cls_add {m : Nat} (hm : Fm m) (i j : Int) : (cls m i + cls m j) % qm m = cls m (i + j) := by
  unfold cls
  rcases qm_lit hm with ⟨rfl, hq, _⟩ | ⟨rfl, hq, _⟩ <;> rw [hq] <;> omega
theorem pwZ_add {m : Nat} (hm : Fm m) {a : Nat} (ha : a < 2 ^ m) (h0 : a ≠ 0) (i j : Int) : mul m (pwZ m a i) (pwZ m a j) = pwZ m a (i + j) := by
  rw [pwZ_cls hm ha h0, pwZ_cls hm ha h0, pwZ_cls hm ha h0, ← pw_add hm ha]
  refine pw_cong hm ha h0 ?_
  rw [cls_add hm, Nat.mod_eq_of_lt (cls_lt hm _)]
theorem cls_q {m : Nat} (hm : Fm m) : cls m (qm m) = 0 := by
  unfold cls
  rcases qm_lit hm with ⟨rfl, hq, _⟩ | ⟨rfl, hq, _⟩ <;> rw [hq] <;> omega
theorem pwZ_q {m : Nat} (hm : Fm m) {a : Nat} (ha : a < 2 ^ m) (h0 : a ≠ 0) : pwZ m a (qm m) = 1 := by
  rw [pwZ_cls hm ha h0, cls_q hm]; rfl
theorem cls_neg {m : Nat} (hm : Fm m) : cls m (-1) = qm m - 1 := by
  unfold cls
  rcases qm_lit hm with ⟨rfl, hq, _⟩ | ⟨rfl, hq, _⟩ <;> rw [hq] <;> decide
theorem pwZ_inv {m : Nat} (hm : Fm m) {a : Nat} (ha : a < 2 ^ m) (h0 : a ≠ 0) : pwZ m a (-1) = inv m a := by
  rw [pwZ_cls hm ha h0, cls_neg hm]; rfl
theorem cls_scale {m : Nat} (hm : Fm m) (i : Int) : (cls m i * (qm m - 1)) % qm m = cls m (-i) := by
  unfold cls
  rcases qm_lit hm with ⟨rfl, hq, _⟩ | ⟨rfl, hq, _⟩ <;> rw [hq] <;> omega
theorem pwZ_neg {m : Nat} (hm : Fm m) {a : Nat} (ha : a < 2 ^ m) (h0 : a ≠ 0) (i : Int) : pwZ m (pwZ m a i) (-1) = pwZ m a (-i) := by
  rw [pwZ_inv hm (pwZ_lt hm a i) (pwZ_ne hm ha h0 i)]
  unfold inv
  rw [pwZ_cls hm ha h0, pwZ_cls hm ha h0, pw_mul hm ha]
  refine pw_cong hm ha h0 ?_
  rw [cls_scale hm, Nat.mod_eq_of_lt (cls_lt hm _)]
theorem pwZ_nat (m a n : Nat) : pwZ m a (n : Int) = pw m a n := by
  unfold pwZ ex
  rw [if_neg (by omega), Int.toNat_natCast]
theorem pwZ_zero (m : Nat) (n : Int) (h : 0 < n) : pwZ m 0 n = 0 := by
  unfold pwZ ex
  rw [if_neg (by omega), zero_pw _ (by omega)]
/-- The exponent that the reference takes. -/
theorem ref_ex {m : Nat} (hm : Fm m) (n : Int) : ((n.tmod (qm m : Int) + (qm m : Int)).tmod (qm m : Int)).toNat = cls m n ∧ 0 ≤ (n.tmod (qm m : Int) + (qm m : Int)).tmod (qm m : Int) := by
  have h1 : 0 ≤ n.tmod (qm m : Int) + (qm m : Int) := by
    by_cases h : n < 0
    · rw [tmod_neg n _ h]
      rcases qm_lit hm with ⟨rfl, hq, _⟩ | ⟨rfl, hq, _⟩ <;> rw [hq] <;> omega
    · rw [Int.tmod_eq_emod_of_nonneg (by omega)]
      rcases qm_lit hm with ⟨rfl, hq, _⟩ | ⟨rfl, hq, _⟩ <;> rw [hq] <;> omega
  rw [Int.tmod_eq_emod_of_nonneg h1]
  unfold cls
  by_cases h : n < 0
  · rw [tmod_neg n _ h]
    rcases qm_lit hm with ⟨rfl, hq, _⟩ | ⟨rfl, hq, _⟩ <;> rw [hq] <;> omega
  · rw [Int.tmod_eq_emod_of_nonneg (by omega)]
    rcases qm_lit hm with ⟨rfl, hq, _⟩ | ⟨rfl, hq, _⟩ <;> rw [hq] <;> omega

/-- The logarithm. -/
noncomputable def lg (m a : Nat) : Nat := open Classical in if h : ∃ l, l < qm m ∧ pw m 2 l = a then h.choose else 0
theorem lg_spec {m : Nat} (hm : Fm m) {a : Nat} (ha : a < 2 ^ m) (h0 : a ≠ 0) : lg m a < qm m ∧ pw m 2 (lg m a) = a := by
  unfold lg
  rw [dif_pos (log_ex hm ha h0)]
  exact (log_ex hm ha h0).choose_spec
theorem lg_is {m : Nat} (hm : Fm m) {l : Nat} (hl : l < qm m) : lg m (pw m 2 l) = l := by
  obtain ⟨h1, h2⟩ := lg_spec hm (pw_lt hm 2 l) (pw_ne hm (fm_two hm) (by decide) l)
  exact two_eq hm h1 hl h2
theorem lg_mul {m : Nat} (hm : Fm m) {a b : Nat} (ha : a < 2 ^ m) (hb : b < 2 ^ m) (h0 : a ≠ 0) (h1 : b ≠ 0) : lg m (mul m a b) = (lg m a + lg m b) % qm m := by
  obtain ⟨a1, a2⟩ := lg_spec hm ha h0
  obtain ⟨b1, b2⟩ := lg_spec hm hb h1
  have h : mul m a b = pw m 2 ((lg m a + lg m b) % qm m) := by
    rw [← pw_mod hm (fm_two hm) (by decide), pw_add hm (fm_two hm), a2, b2]
  rw [h, lg_is hm (Nat.mod_lt _ (by have := qm_pos hm; omega))]

/-- The least number of factors. -/
def Least (m base a n : Nat) : Prop := pw m base n = a ∧ ∀ k, k < n → pw m base k ≠ a
theorem rt_lit {m : Nat} (hm : Fm m) : 1 ≤ rt m - 1 ∧ (rt m - 1) * (rt m + 1) = qm m ∧ rt m ≤ 256 := by rcases hm with rfl | rfl <;> decide
theorem least_one {m : Nat} (hm : Fm m) {a : Nat} (ha : a < 2 ^ m) (h0 : a ≠ 0) : Least m (pw m 2 (rt m - 1)) (pw m a (rt m - 1)) (lg m a % (rt m + 1)) := by
  obtain ⟨h1, h2⟩ := lg_spec hm ha h0
  obtain ⟨r1, r2, _⟩ := rt_lit hm
  have e : pw m a (rt m - 1) = pw m 2 (lg m a * (rt m - 1)) := by rw [← pw_mul hm (fm_two hm), h2]
  have key : ∀ k, (rt m - 1) * k % qm m = lg m a * (rt m - 1) % qm m ↔ k % (rt m + 1) = lg m a % (rt m + 1) := fun k => by
    rw [← r2, Nat.mul_comm (lg m a), Nat.mul_mod_mul_left, Nat.mul_mod_mul_left]
    exact ⟨fun h => Nat.eq_of_mul_eq_mul_left (by omega) h, fun h => by rw [h]⟩
  refine ⟨?_, fun k hk => ?_⟩
  · rw [e, pw_mul hm (fm_two hm)]
    exact pw_cong hm (fm_two hm) (by decide) ((key _).2 (by rw [Nat.mod_mod]))
  · rw [e, pw_mul hm (fm_two hm), pw_mod hm (fm_two hm) (by decide) ((rt m - 1) * k), pw_mod hm (fm_two hm) (by decide) (lg m a * (rt m - 1))]
    intro h
    have hq := qm_pos hm
    have h3 := two_eq hm (Nat.mod_lt _ (by omega)) (Nat.mod_lt _ (by omega)) h
    have h4 := (key k).1 h3
    have h5 : lg m a % (rt m + 1) < rt m + 1 := Nat.mod_lt _ (by omega)
    rw [Nat.mod_eq_of_lt (by omega)] at h4
    omega
theorem least_two {m : Nat} (hm : Fm m) {a : Nat} (ha : a < 2 ^ m) (h0 : a ≠ 0) : Least m (pw m 2 (rt m + 1)) (mul m a (pwZ m 2 (-((lg m a % (rt m + 1) : Nat) : Int)))) (lg m a / (rt m + 1)) := by
  obtain ⟨h1, h2⟩ := lg_spec hm ha h0
  obtain ⟨r1, r2, _⟩ := rt_lit hm
  have hdm := Nat.div_add_mod (lg m a) (rt m + 1)
  have e : mul m a (pwZ m 2 (-((lg m a % (rt m + 1) : Nat) : Int))) = pw m 2 ((rt m + 1) * (lg m a / (rt m + 1))) := by
    have h3 := pwZ_add hm (fm_two hm) (by decide) (lg m a : Int) (-((lg m a % (rt m + 1) : Nat) : Int))
    rw [pwZ_nat, h2] at h3
    rw [h3, show ((lg m a : Nat) : Int) + -((lg m a % (rt m + 1) : Nat) : Int) = (((rt m + 1) * (lg m a / (rt m + 1)) : Nat) : Int) by omega, pwZ_nat]
  refine ⟨by rw [e, pw_mul hm (fm_two hm)], fun k hk => ?_⟩
  rw [e, pw_mul hm (fm_two hm)]
  intro h
  have hle : (rt m + 1) * k ≤ (rt m + 1) * (lg m a / (rt m + 1)) := Nat.mul_le_mul_left _ (by omega)
  have h3 := two_eq hm (by omega) (by omega) h
  have h4 := Nat.eq_of_mul_eq_mul_left (by omega) h3
  omega

/-- A step of the program's product. -/
theorem and1_nat (b : Nat) : b &&& 1 = b % 2 := Nat.and_one_is_mod b
theorem xt_prog {m : Nat} (hm : Fm m) {a : Nat} (ha : a < 2 ^ m) : (2 * a) ^^^ (pol m * (2 * a / 2 ^ m)) = xt m a := by
  unfold xt
  congr 1
  have h2 : (2 * a) / 2 ^ m = if (2 * a).testBit m then 1 else 0 := by
    have h3 : 2 * a < 2 * 2 ^ m := by omega
    have h4 : (2 * a) / 2 ^ m < 2 := by rw [Nat.div_lt_iff_lt_mul (Nat.two_pow_pos m)]; omega
    rw [Nat.testBit_eq_decide_div_mod_eq]
    generalize (2 * a) / 2 ^ m = x at *
    rcases (show x = 0 ∨ x = 1 by omega) with rfl | rfl <;> rfl
  rw [h2]
  split <;> simp
theorem xt_ref {m : Nat} (hm : Fm m) {a : Nat} (ha : a < 2 ^ m) : (if 2 ^ m ≤ 2 * a then (2 * a) ^^^ pol m else 2 * a) = xt m a := by
  unfold xt
  have h4 : (2 * a) / 2 ^ m < 2 := by rw [Nat.div_lt_iff_lt_mul (Nat.two_pow_pos m)]; omega
  have h5 := Nat.div_add_mod (2 * a) (2 ^ m)
  have h6 := Nat.mod_lt (2 * a) (Nat.two_pow_pos m)
  rw [Nat.testBit_eq_decide_div_mod_eq]
  by_cases h : 2 ^ m ≤ 2 * a
  · have : (2 * a) / 2 ^ m = 1 := by
      have := Nat.div_pos h (Nat.two_pow_pos m); omega
    rw [if_pos h, this]; rfl
  · have : (2 * a) / 2 ^ m = 0 := Nat.div_eq_of_lt (by omega)
    rw [if_neg h, this]
    simp
theorem mulG_stop (m : Nat) (n a : Nat) (b : Nat) (h : b = 0) : mulG m n a b = 0 := by rw [h, mulG_zeroR]
/-- What is left of a product. -/
theorem mulG_more (m : Nat) : ∀ n a b, b < 2 ^ n → mulG m (n + 1) a b = mulG m n a b
  | 0, a, b, h => by
    obtain rfl : b = 0 := by simpa using h
    rw [mulG_zeroR, mulG_zeroR]
  | n + 1, a, b, h => by
    show a * (b % 2) ^^^ mulG m (n + 1) (xt m a) (b / 2) = a * (b % 2) ^^^ mulG m n (xt m a) (b / 2)
    rw [mulG_more m n _ _ (by rw [Nat.pow_succ] at h; omega)]
/-- A product without a bound on the steps. -/
def ml (m a b : Nat) : Nat := mulG m b a b
theorem mulG_any (m : Nat) : ∀ k n a b, b < 2 ^ n → mulG m (n + k) a b = mulG m n a b
  | 0, _, _, _, _ => rfl
  | k + 1, n, a, b, h => by
    rw [← Nat.add_assoc, mulG_more m (n + k) a b (Nat.lt_of_lt_of_le h (Nat.pow_le_pow_right (by omega) (by omega))), mulG_any m k n a b h]
theorem ml_eq (m n a b : Nat) (h : b < 2 ^ n) : ml m a b = mulG m n a b := by
  unfold ml
  rcases Nat.le_total b n with hle | hle
  · have := mulG_any m (n - b) b a b Nat.lt_two_pow_self
    rw [show b + (n - b) = n by omega] at this
    exact this.symm
  · have := mulG_any m (b - n) n a b h
    rw [show n + (b - n) = b by omega] at this
    exact this
theorem ml_mul (m a b : Nat) (h : b < 2 ^ m) : ml m a b = mul m a b := ml_eq m m a b h
theorem ml_step (m a b : Nat) : ml m a b = (a * (b % 2)) ^^^ ml m (xt m a) (b / 2) := by
  have h1 := ml_eq m (b + 1) a b (Nat.lt_of_lt_of_le Nat.lt_two_pow_self (Nat.pow_le_pow_right (by omega) (by omega)))
  have h2 := ml_eq m b (xt m a) (b / 2) (Nat.lt_of_le_of_lt (Nat.div_le_self b 2) Nat.lt_two_pow_self)
  rw [h1, h2]
  rfl
theorem ml_zero (m a : Nat) : ml m a 0 = 0 := rfl
theorem step_lt {m : Nat} (hm : Fm m) {s a : Nat} (b : Nat) (hs : s < 2 ^ m) (ha : a < 2 ^ m) : s ^^^ (a * (b % 2)) < 2 ^ m := by
  refine Nat.xor_lt_two_pow hs ?_
  rcases Nat.mod_two_eq_zero_or_one b with h2 | h2 <;> rw [h2]
  · simpa using Nat.two_pow_pos m
  · simpa using ha

end Go.Proofs.YtpjgmekpnlpjaaaDoor
