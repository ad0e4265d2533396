/-
  The fields with 2^8 and 2^16 elements: every element but 0 has an inverse and a logarithm. No program stands behind this text.
-/
import Derived.Test.YtpjgmekpnlpjaaaDoorFldA
namespace Go.Proofs.YtpjgmekpnlpjaaaDoor
set_option linter.unusedVariables false
set_option linter.unusedSimpArgs false

def qm (m : Nat) : Nat := 2 ^ m - 1
def rt (m : Nat) : Nat := 2 ^ (m / 2)
theorem qm_lit {m : Nat} (hm : Fm m) : (m = 8 ∧ qm m = 255 ∧ 2 ^ m = 256 ∧ rt m = 16) ∨ (m = 16 ∧ qm m = 65535 ∧ 2 ^ m = 65536 ∧ rt m = 256) := by
  rcases hm with rfl | rfl
  · left; decide
  · right; decide

theorem sqs_lt {m : Nat} (hm : Fm m) : ∀ k a, a < 2 ^ m → sqs m k a < 2 ^ m
  | 0, a, h => h
  | k + 1, a, h => sqs_lt hm k _ (mul_lt hm a h)
theorem sqs_lin {m : Nat} (hm : Fm m) : ∀ k, LinB m (sqs m k)
  | 0 => fun _ _ _ _ => rfl
  | k + 1 => fun a b ha hb => by
    show sqs m k (mul m (a ^^^ b) (a ^^^ b)) = sqs m k (mul m a a) ^^^ sqs m k (mul m b b)
    rw [sq_xor hm ha hb, sqs_lin hm k _ _ (mul_lt hm a ha) (mul_lt hm b hb)]
theorem frob {m : Nat} (hm : Fm m) {a : Nat} (ha : a < 2 ^ m) : pw m a (2 ^ m) = a := by
  rw [← sqs_pw hm m ha]
  refine linB_ext m (g := fun x => x) (sqs_lin hm m) (fun _ _ _ _ => rfl) ?_ a ha
  rcases hm with rfl | rfl <;> decide +kernel

def lapp : List Nat → Nat → Nat
  | [], _ => 0
  | c :: r, y => (c * (y % 2)) ^^^ lapp r (y / 2)
theorem lapp_lin : ∀ l, LinN (lapp l)
  | [] => fun _ _ => (xs 0).symm
  | c :: r => fun a b => by
    show c * ((a ^^^ b) % 2) ^^^ lapp r ((a ^^^ b) / 2) = (c * (a % 2) ^^^ lapp r (a / 2)) ^^^ (c * (b % 2) ^^^ lapp r (b / 2))
    have h := half_xor a b
    simp only at h
    rw [bit_times, h, lapp_lin r, xx]
def lcol (m : Nat) : List Nat := if m = 8 then [214, 232, 234, 44, 238, 0, 36, 80] else [350, 42420, 42422, 7412, 42418, 10272, 7420, 1328, 42402, 38610, 10240, 5068, 7356, 0, 1456, 21936]
theorem idem {m : Nat} (hm : Fm m) {e : Nat} (he : e < 2 ^ m) (h : mul m e e = e) : e = 0 ∨ e = 1 := by
  have key : lapp (lcol m) (mul m e e ^^^ e) = e ^^^ (e % 2) := by
    refine linB_ext m (f := fun x => lapp (lcol m) (mul m x x ^^^ x)) (g := fun x => x ^^^ (x % 2)) (fun a b ha hb => ?_) (fun a b _ _ => ?_) ?_ e he
    · show lapp _ (mul m (a ^^^ b) (a ^^^ b) ^^^ (a ^^^ b)) = _
      rw [sq_xor hm ha hb, xx, lapp_lin]
    · show (a ^^^ b) ^^^ ((a ^^^ b) % 2) = _
      rw [mod2_xor, xx]
    · rcases hm with rfl | rfl <;> decide +kernel
  rw [h, xs, (lapp_lin _).zero] at key
  have := xe key.symm
  omega

theorem qm_pos {m : Nat} (hm : Fm m) : 2 ≤ qm m ∧ qm m + 1 = 2 ^ m := by rcases hm with rfl | rfl <;> decide
theorem pw_q {m : Nat} (hm : Fm m) {a : Nat} (ha : a < 2 ^ m) (h0 : a ≠ 0) : pw m a (qm m) = 1 := by
  obtain ⟨h2, h3⟩ := qm_pos hm
  have hf := frob hm ha
  rcases idem hm (pw_lt hm a (qm m)) (by
      rw [← pw_add hm ha, show qm m + qm m = 2 ^ m + (qm m - 1) by omega, pw_add hm ha, hf]
      have := pw_add hm ha 1 (qm m - 1)
      rw [pw_one hm ha] at this
      rw [← this]
      congr 1; omega) with h | h
  · exfalso
    have : pw m a (qm m + 1) = 0 := by
      show mul m (pw m a (qm m)) a = 0
      rw [h, mul_zeroL]
    rw [h3, hf] at this
    exact h0 this
  · exact h
theorem pw_mod {m : Nat} (hm : Fm m) {a : Nat} (ha : a < 2 ^ m) (h0 : a ≠ 0) (n : Nat) : pw m a n = pw m a (n % qm m) := by
  have h := pw_add hm ha (qm m * (n / qm m)) (n % qm m)
  rw [Nat.div_add_mod, ← pw_mul hm ha, pw_q hm ha h0, one_pw hm, mul_oneL hm (pw_lt hm a _)] at h
  exact h
theorem pw_cong {m : Nat} (hm : Fm m) {a : Nat} (ha : a < 2 ^ m) (h0 : a ≠ 0) {i j : Nat} (h : i % qm m = j % qm m) : pw m a i = pw m a j := by
  rw [pw_mod hm ha h0 i, h, ← pw_mod hm ha h0 j]
theorem pw_ne {m : Nat} (hm : Fm m) {a : Nat} (ha : a < 2 ^ m) (h0 : a ≠ 0) (n : Nat) : pw m a n ≠ 0 := by
  intro h
  have h1 := pw_mul hm ha n (qm m)
  rw [h, zero_pw _ (by have := qm_pos hm; omega), Nat.mul_comm, ← pw_mul hm ha, pw_q hm ha h0, one_pw hm] at h1
  cases h1
/-- The inverse. -/
def inv (m a : Nat) : Nat := pw m a (qm m - 1)
theorem inv_lt {m : Nat} (hm : Fm m) (a : Nat) : inv m a < 2 ^ m := pw_lt hm a _
theorem mul_inv {m : Nat} (hm : Fm m) {a : Nat} (ha : a < 2 ^ m) (h0 : a ≠ 0) : mul m a (inv m a) = 1 := by
  have h := pw_add hm ha 1 (qm m - 1)
  rw [pw_one hm ha, show 1 + (qm m - 1) = qm m by have := qm_pos hm; omega, pw_q hm ha h0] at h
  exact h.symm
theorem mul_back {m : Nat} (hm : Fm m) {a x : Nat} (ha : a < 2 ^ m) (hx : x < 2 ^ m) (h0 : a ≠ 0) : mul m (mul m x a) (inv m a) = x := by
  rw [mul_assoc hm hx ha (inv_lt hm a), mul_inv hm ha h0, mul_oneR hm]
theorem mul_cancel {m : Nat} (hm : Fm m) {a x y : Nat} (ha : a < 2 ^ m) (hx : x < 2 ^ m) (hy : y < 2 ^ m) (h0 : a ≠ 0) (h : mul m a x = mul m a y) : x = y := by
  rw [mul_comm hm ha hx, mul_comm hm ha hy] at h
  rw [← mul_back hm ha hx h0, h, mul_back hm ha hy h0]
theorem mul_ne {m : Nat} (hm : Fm m) {a b : Nat} (ha : a < 2 ^ m) (hb : b < 2 ^ m) (h0 : a ≠ 0) (h1 : b ≠ 0) : mul m a b ≠ 0 := fun h => h1 (mul_cancel hm ha hb (Nat.two_pow_pos m) h0 (by rw [h, mul_zeroR]))

/-- A power, by halving the exponent. -/
def fp (m : Nat) : Nat → Nat → Nat → Nat → Nat
  | 0, p, _, _ => p
  | k + 1, p, a, n => fp m k (if n % 2 = 1 then mul m p a else p) (mul m a a) (n / 2)
theorem fp_step {m : Nat} (hm : Fm m) {p a : Nat} (hp : p < 2 ^ m) (ha : a < 2 ^ m) (n : Nat) : mul m (if n % 2 = 1 then mul m p a else p) (pw m (mul m a a) (n / 2)) = mul m p (pw m a n) := by
  rw [pw_two hm ha]
  rcases Nat.mod_two_eq_zero_or_one n with h | h <;> rw [h]
  · rw [if_neg (by decide), show 2 * (n / 2) = n by omega]
  · rw [if_pos rfl, mul_assoc hm hp ha (pw_lt hm a _)]
    have h2 := pw_add hm ha 1 (2 * (n / 2))
    rw [pw_one hm ha, show 1 + 2 * (n / 2) = n by omega] at h2
    rw [h2]
theorem fp_is {m : Nat} (hm : Fm m) : ∀ k p a n, p < 2 ^ m → a < 2 ^ m → n < 2 ^ k → fp m k p a n = mul m p (pw m a n)
  | 0, p, a, n, hp, ha, hn => by
    obtain rfl : n = 0 := by simpa using hn
    exact (mul_oneR hm p).symm
  | k + 1, p, a, n, hp, ha, hn => by
    have hp2 : (if n % 2 = 1 then mul m p a else p) < 2 ^ m := by split; exact mul_lt hm a hp; exact hp
    show fp m k (if n % 2 = 1 then mul m p a else p) (mul m a a) (n / 2) = _
    rw [fp_is hm k _ _ _ hp2 (mul_lt hm a ha) (by rw [Nat.pow_succ] at hn; omega), fp_step hm hp ha]
theorem fp_one {m : Nat} (hm : Fm m) (n : Nat) (hn : n < 2 ^ 16) : pw m 2 n = fp m 16 1 2 n := by
  rw [fp_is hm 16 1 2 n (fm_one hm) (fm_two hm) hn, mul_oneL hm (pw_lt hm 2 n)]

/-- The exponents at which 2 becomes 1. -/
theorem ones_gcd {m : Nat} (hm : Fm m) (a b : Nat) : pw m 2 a = 1 → pw m 2 b = 1 → pw m 2 (Nat.gcd a b) = 1 := by
  refine Nat.gcd.induction (P := fun a b => pw m 2 a = 1 → pw m 2 b = 1 → pw m 2 (Nat.gcd a b) = 1) a b ?_ ?_
  · intro n _ h; rw [Nat.gcd_zero_left]; exact h
  · intro a b _ ih h1 h2
    rw [Nat.gcd_rec]
    refine ih ?_ h1
    have h := pw_add hm (fm_two hm) (a * (b / a)) (b % a)
    rw [Nat.div_add_mod, ← pw_mul hm (fm_two hm), h1, one_pw hm, mul_oneL hm (pw_lt hm 2 _), h2] at h
    exact h.symm
theorem div255 : ∀ g, g < 256 → 255 % g = 0 → g ≠ 255 → 85 % g = 0 ∨ 51 % g = 0 ∨ 15 % g = 0 := by decide +kernel
theorem divA : ∀ g, g < 256 → 65535 % g = 0 → 21845 % g = 0 ∨ 13107 % g = 0 ∨ 3855 % g = 0 ∨ 255 % g = 0 := by decide +kernel
theorem divB : ∀ k, k < 256 → 65535 % k = 0 → k ≠ 1 → k % 3 = 0 ∨ k % 5 = 0 ∨ k % 17 = 0 ∨ k % 257 = 0 := by decide +kernel
theorem two_ord {m : Nat} (hm : Fm m) {n : Nat} (h : pw m 2 n = 1) : n % qm m = 0 := by
  have hg := ones_gcd hm n (qm m) h (pw_q hm (fm_two hm) (by decide))
  have hd : Nat.gcd n (qm m) ∣ qm m := Nat.gcd_dvd_right n (qm m)
  have hn : Nat.gcd n (qm m) ∣ n := Nat.gcd_dvd_left n (qm m)
  by_cases he : Nat.gcd n (qm m) = qm m
  · rw [he] at hn; exact Nat.mod_eq_zero_of_dvd hn
  exfalso
  generalize Nat.gcd n (qm m) = g at *
  have mult : ∀ x, x % g = 0 → pw m 2 x = 1 := fun x hx => by
    obtain ⟨k, rfl⟩ := Nat.dvd_of_mod_eq_zero hx
    rw [← pw_mul hm (fm_two hm), hg, one_pw hm]
  have no : ∀ x, x < 2 ^ 16 → fp m 16 1 2 x ≠ 1 → ¬ x % g = 0 := fun x hx hf hg => hf (by rw [← fp_one hm x hx]; exact mult x hg)
  rcases qm_lit hm with ⟨rfl, hq, _⟩ | ⟨rfl, hq, _⟩
  · rw [hq] at hd he
    have hle : g ≤ 255 := Nat.le_of_dvd (by decide) hd
    rcases div255 g (by omega) (Nat.mod_eq_zero_of_dvd hd) he with h | h | h
    · exact no 85 (by decide) (by decide +kernel) h
    · exact no 51 (by decide) (by decide +kernel) h
    · exact no 15 (by decide) (by decide +kernel) h
  · rw [hq] at hd he
    have h1 := no 21845 (by decide) (by decide +kernel)
    have h2 := no 13107 (by decide) (by decide +kernel)
    have h3 := no 3855 (by decide) (by decide +kernel)
    have h4 := no 255 (by decide) (by decide +kernel)
    rcases Nat.lt_or_ge g 256 with hlt | hge
    · rcases divA g hlt (Nat.mod_eq_zero_of_dvd hd) with h | h | h | h
      · exact h1 h
      · exact h2 h
      · exact h3 h
      · exact h4 h
    · obtain ⟨k, hk⟩ := hd
      have hk2 : k < 256 := by
        rcases Nat.lt_or_ge k 256 with h | h
        · exact h
        · have := Nat.mul_le_mul hge h; omega
      have up : ∀ p x, k % p = 0 → 65535 = p * x → 0 < p → x % g = 0 := fun p x hkp hx hp => by
        obtain ⟨j, rfl⟩ := Nat.dvd_of_mod_eq_zero hkp
        apply Nat.mod_eq_zero_of_dvd
        refine ⟨j, Nat.eq_of_mul_eq_mul_left hp ?_⟩
        rw [← hx, hk, Nat.mul_left_comm]
      rcases divB k hk2 (by rw [hk]; exact Nat.mul_mod_left g k) (fun e => he (by rw [e, Nat.mul_one] at hk; exact hk.symm)) with h | h | h | h
      · exact h1 (up 3 _ h rfl (by decide))
      · exact h2 (up 5 _ h rfl (by decide))
      · exact h3 (up 17 _ h rfl (by decide))
      · exact h4 (up 257 _ h rfl (by decide))
theorem two_inj {m : Nat} (hm : Fm m) {i j : Nat} (hij : i ≤ j) (h : pw m 2 i = pw m 2 j) : (j - i) % qm m = 0 := by
  apply two_ord hm
  have h2 := pw_add hm (fm_two hm) i (j - i)
  rw [show i + (j - i) = j by omega, ← h] at h2
  refine mul_cancel hm (pw_lt hm 2 i) (pw_lt hm 2 _) (fm_one hm) (pw_ne hm (fm_two hm) (by decide) i) ?_
  rw [← h2, mul_oneR hm]
theorem two_eq {m : Nat} (hm : Fm m) {i j : Nat} (hi : i < qm m) (hj : j < qm m) (h : pw m 2 i = pw m 2 j) : i = j := by
  rcases Nat.le_total i j with hij | hij
  · have h2 := two_inj hm hij h
    rw [Nat.mod_eq_of_lt (by omega)] at h2
    omega
  · have h2 := two_inj hm hij h.symm
    rw [Nat.mod_eq_of_lt (by omega)] at h2
    omega

theorem onto_of_inj : ∀ (n : Nat) (f : Nat → Nat), (∀ i, i < n → f i < n) → (∀ i j, i < n → j < n → f i = f j → i = j) → ∀ y, y < n → ∃ i, i < n ∧ f i = y
  | 0, f, _, _, y, hy => absurd hy (Nat.not_lt_zero y)
  | n + 1, f, hf, hi, y, hy => by
    have ih := onto_of_inj n (fun i => if f i = n then f n else f i) (fun i h => by
      show (if f i = n then f n else f i) < n
      split
      · rename_i e
        have h1 := hf n (by omega)
        have h2 : f n ≠ n := fun e2 => by have := hi i n (by omega) (by omega) (by rw [e, e2]); omega
        omega
      · have h1 := hf i (by omega)
        omega) (fun i j h1 h2 e => by
      have e : (if f i = n then f n else f i) = (if f j = n then f n else f j) := e
      split at e <;> split at e
      · exact hi i j (by omega) (by omega) (by omega)
      · have := hi n j (by omega) (by omega) e; omega
      · have := hi i n (by omega) (by omega) e; omega
      · exact hi i j (by omega) (by omega) e)
    by_cases h1 : y = f n
    · exact ⟨n, by omega, h1.symm⟩
    by_cases h2 : y = n
    · have h3 := hf n (by omega)
      obtain ⟨i, q1, q2⟩ := ih (f n) (by omega)
      have q2 : (if f i = n then f n else f i) = f n := q2
      split at q2
      · exact ⟨i, by omega, by omega⟩
      · have := hi i n (by omega) (by omega) q2; omega
    · obtain ⟨i, q1, q2⟩ := ih y (by omega)
      have q2 : (if f i = n then f n else f i) = y := q2
      split at q2
      · exact absurd q2.symm h1
      · exact ⟨i, by omega, q2⟩
theorem log_ex {m : Nat} (hm : Fm m) {a : Nat} (ha : a < 2 ^ m) (h0 : a ≠ 0) : ∃ l, l < qm m ∧ pw m 2 l = a := by
  have hq := qm_pos hm
  have hne : ∀ i, pw m 2 i ≠ 0 := pw_ne hm (fm_two hm) (by decide)
  have hlt : ∀ i, pw m 2 i < 2 ^ m := pw_lt hm 2
  obtain ⟨i, h1, h2⟩ := onto_of_inj (qm m) (fun i => pw m 2 i - 1) (fun i _ => by show pw m 2 i - 1 < qm m; have := hne i; have := hlt i; omega)
    (fun i j hi hj e => by have e : pw m 2 i - 1 = pw m 2 j - 1 := e; exact two_eq hm hi hj (by have := hne i; have := hne j; omega)) (a - 1) (by omega)
  have h2 : pw m 2 i - 1 = a - 1 := h2
  exact ⟨i, h1, by have := hne i; omega⟩

end Go.Proofs.YtpjgmekpnlpjaaaDoor
