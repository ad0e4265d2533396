/-
  The fields with 2^8 and 2^16 elements as plain functions: their laws, from what linear maps do at the single bits. No program stands behind this text.
-/
import Derived.WalkKit
namespace Go.Proofs.YtpjgmekpnlpjaaaDoor
set_option linter.unusedVariables false
set_option linter.unusedSimpArgs false

/-- The field's polynomial. -/
def pol (m : Nat) : Nat := if m = 8 then 285 else 69643
def Fm (m : Nat) : Prop := m = 8 ∨ m = 16
/-- Times x. -/
def xt (m a : Nat) : Nat := (2 * a) ^^^ (if (2 * a).testBit m then pol m else 0)
def mulG (m : Nat) : Nat → Nat → Nat → Nat
  | 0, _, _ => 0
  | n + 1, a, b => (a * (b % 2)) ^^^ mulG m n (xt m a) (b / 2)
def mul (m a b : Nat) : Nat := mulG m m a b
def pw (m a : Nat) : Nat → Nat
  | 0 => 1
  | n + 1 => mul m (pw m a n) a

def LinN (f : Nat → Nat) : Prop := ∀ a b, f (a ^^^ b) = f a ^^^ f b
theorem xz (a : Nat) : a ^^^ 0 = a := Nat.xor_zero a
theorem zx (a : Nat) : 0 ^^^ a = a := Nat.zero_xor a
theorem xs (a : Nat) : a ^^^ a = 0 := Nat.xor_self a
theorem xc (a b : Nat) : a ^^^ b = b ^^^ a := Nat.xor_comm a b
theorem xa (a b c : Nat) : a ^^^ b ^^^ c = a ^^^ (b ^^^ c) := Nat.xor_assoc a b c
theorem xl (a b c : Nat) : a ^^^ (b ^^^ c) = b ^^^ (a ^^^ c) := by rw [← xa, xc a b, xa]
theorem xx (a b c d : Nat) : (a ^^^ b) ^^^ (c ^^^ d) = (a ^^^ c) ^^^ (b ^^^ d) := by rw [xa, xl b, ← xa]
theorem xe {a b : Nat} (h : a ^^^ b = 0) : a = b := by
  have : a ^^^ (a ^^^ b) = b := by rw [← xa, xs, zx]
  rw [h, xz] at this
  exact this
theorem LinN.zero {f : Nat → Nat} (h : LinN f) : f 0 = 0 := by
  have := h 0 0
  rw [xs] at this
  have h2 := xs (f 0)
  rw [← this] at h2
  exact h2
theorem LinN.add {f g : Nat → Nat} (hf : LinN f) (hg : LinN g) : LinN (fun a => f a ^^^ g a) := fun a b => by
  show f (a ^^^ b) ^^^ g (a ^^^ b) = _
  rw [hf, hg, xx]
theorem LinN.comp {f g : Nat → Nat} (hf : LinN f) (hg : LinN g) : LinN (fun a => f (g a)) := fun a b => by
  show f (g (a ^^^ b)) = _
  rw [hg, hf]
theorem two_xor : LinN (fun a => 2 * a) := fun a b => by
  apply Nat.eq_of_testBit_eq
  intro i
  simp only [Nat.testBit_xor]
  cases i with
  | zero => simp
  | succ i => rw [Nat.testBit_succ, Nat.testBit_succ, Nat.testBit_succ]; simp [Nat.testBit_xor]
theorem half_xor : LinN (fun a => a / 2) := fun a b => by
  apply Nat.eq_of_testBit_eq
  intro i
  simp only [Nat.testBit_xor, Nat.testBit_div_two]
theorem mod2_xor (a b : Nat) : (a ^^^ b) % 2 = (a % 2) ^^^ (b % 2) := by
  have h := Nat.xor_mod_two_pow (a := a) (b := b) (n := 1)
  simpa using h
theorem bit_times (c a b : Nat) : c * ((a ^^^ b) % 2) = (c * (a % 2)) ^^^ (c * (b % 2)) := by
  rw [mod2_xor]
  rcases Nat.mod_two_eq_zero_or_one a with h | h <;> rcases Nat.mod_two_eq_zero_or_one b with h2 | h2 <;> rw [h, h2] <;> simp
theorem times_bit (a b c : Nat) : (a ^^^ b) * (c % 2) = (a * (c % 2)) ^^^ (b * (c % 2)) := by
  rcases Nat.mod_two_eq_zero_or_one c with h | h <;> rw [h] <;> simp
theorem xt_lin (m : Nat) : LinN (xt m) := fun a b => by
  unfold xt
  have h := two_xor a b
  simp only at h
  rw [h, Nat.testBit_xor]
  generalize 2 * a = A
  generalize 2 * b = B
  generalize pol m = p
  cases A.testBit m <;> cases B.testBit m
  · show A ^^^ B ^^^ 0 = (A ^^^ 0) ^^^ (B ^^^ 0)
    rw [xz, xz, xz]
  · show A ^^^ B ^^^ p = (A ^^^ 0) ^^^ (B ^^^ p)
    rw [xz, xa]
  · show A ^^^ B ^^^ p = (A ^^^ p) ^^^ (B ^^^ 0)
    rw [xz, xa, xc B, ← xa]
  · show A ^^^ B ^^^ 0 = (A ^^^ p) ^^^ (B ^^^ p)
    rw [xx, xs]
theorem mulGL (m : Nat) : ∀ n b a c, mulG m n (a ^^^ c) b = mulG m n a b ^^^ mulG m n c b
  | 0, b, a, c => (xs 0).symm
  | n + 1, b, a, c => by
    show (a ^^^ c) * (b % 2) ^^^ mulG m n (xt m (a ^^^ c)) (b / 2) = (a * (b % 2) ^^^ mulG m n (xt m a) (b / 2)) ^^^ (c * (b % 2) ^^^ mulG m n (xt m c) (b / 2))
    rw [times_bit, xt_lin, mulGL m n _ (xt m a) (xt m c), xx]
theorem mulGR (m : Nat) : ∀ n a b c, mulG m n a (b ^^^ c) = mulG m n a b ^^^ mulG m n a c
  | 0, a, b, c => (xs 0).symm
  | n + 1, a, b, c => by
    show a * ((b ^^^ c) % 2) ^^^ mulG m n (xt m a) ((b ^^^ c) / 2) = (a * (b % 2) ^^^ mulG m n (xt m a) (b / 2)) ^^^ (a * (c % 2) ^^^ mulG m n (xt m a) (c / 2))
    have h := half_xor b c
    simp only at h
    rw [bit_times, h, mulGR m n _ (b / 2) (c / 2), xx]
theorem mulG_linL (m : Nat) (n b : Nat) : LinN (fun a => mulG m n a b) := fun a c => mulGL m n b a c
theorem mulG_linR (m : Nat) (n a : Nat) : LinN (fun b => mulG m n a b) := fun b c => mulGR m n a b c
theorem mul_linL (m b : Nat) : LinN (fun a => mul m a b) := mulG_linL m m b
theorem mul_linR (m a : Nat) : LinN (fun b => mul m a b) := mulG_linR m m a
theorem mulL (m a b c : Nat) : mul m (a ^^^ b) c = mul m a c ^^^ mul m b c := mul_linL m c a b
theorem mulR (m a b c : Nat) : mul m a (b ^^^ c) = mul m a b ^^^ mul m a c := mul_linR m a b c
theorem mulG_zeroR (m : Nat) (n a : Nat) : mulG m n a 0 = 0 := (mulG_linR m n a).zero
theorem mulG_zeroL (m : Nat) (n b : Nat) : mulG m n 0 b = 0 := (mulG_linL m n b).zero
theorem mul_zeroR (m a : Nat) : mul m a 0 = 0 := mulG_zeroR m m a
theorem mul_zeroL (m b : Nat) : mul m 0 b = 0 := mulG_zeroL m m b
theorem xt_mulG (m : Nat) : ∀ n a b, mulG m n (xt m a) b = xt m (mulG m n a b)
  | 0, a, b => (xt_lin m).zero.symm
  | n + 1, a, b => by
    show xt m a * (b % 2) ^^^ mulG m n (xt m (xt m a)) (b / 2) = xt m (a * (b % 2) ^^^ mulG m n (xt m a) (b / 2))
    rw [xt_lin, xt_mulG m n]
    congr 1
    rcases Nat.mod_two_eq_zero_or_one b with h | h <;> rw [h]
    · rw [Nat.mul_zero, Nat.mul_zero, (xt_lin m).zero]
    · rw [Nat.mul_one, Nat.mul_one]
theorem mulG_right (m k : Nat) (c : Nat) : ∀ n a b, mulG m k (mulG m n a b) c = mulG m n (mulG m k a c) b
  | 0, a, b => mulG_zeroL m k c
  | n + 1, a, b => by
    show mulG m k (a * (b % 2) ^^^ mulG m n (xt m a) (b / 2)) c = mulG m k a c * (b % 2) ^^^ mulG m n (xt m (mulG m k a c)) (b / 2)
    rw [mulGL, mulG_right m k c n, xt_mulG m k a c]
    congr 1
    rcases Nat.mod_two_eq_zero_or_one b with h | h <;> rw [h]
    · rw [Nat.mul_zero, Nat.mul_zero, mulG_zeroL]
    · rw [Nat.mul_one, Nat.mul_one]
/-- (a b) c = (a c) b. -/
theorem mul_right (m a b c : Nat) : mul m (mul m a b) c = mul m (mul m a c) b := mulG_right m m c m a b

/-- Linear on what is less than 2^n. -/
def LinB (n : Nat) (f : Nat → Nat) : Prop := ∀ a b, a < 2 ^ n → b < 2 ^ n → f (a ^^^ b) = f a ^^^ f b
theorem LinN.b {f : Nat → Nat} (h : LinN f) (n : Nat) : LinB n f := fun a b _ _ => h a b
theorem LinB.zero {n : Nat} {f : Nat → Nat} (h : LinB n f) : f 0 = 0 := by
  have := h 0 0 (Nat.two_pow_pos n) (Nat.two_pow_pos n)
  rw [xs] at this
  have h2 := xs (f 0)
  rw [← this] at h2
  exact h2
theorem bits_split (a : Nat) : a = (2 * (a / 2)) ^^^ (a % 2) := by
  apply Nat.eq_of_testBit_eq
  intro i
  rw [Nat.testBit_xor]
  cases i with
  | zero => simp
  | succ i =>
    rw [Nat.testBit_succ, Nat.testBit_succ, Nat.testBit_succ, show 2 * (a / 2) / 2 = a / 2 by omega, show a % 2 / 2 = 0 by omega]
    simp
/-- A linear map is known by its values at the single bits. -/
theorem linB_ext : ∀ (n : Nat) {f g : Nat → Nat}, LinB n f → LinB n g → (∀ i, i < n → f (2 ^ i) = g (2 ^ i)) → ∀ a, a < 2 ^ n → f a = g a
  | 0, f, g, hf, hg, _, a, ha => by
    obtain rfl : a = 0 := by simpa using ha
    rw [hf.zero, hg.zero]
  | n + 1, f, g, hf, hg, h, a, ha => by
    have two : ∀ {k : Nat → Nat}, LinB (n + 1) k → LinB n (fun x => k (2 * x)) := fun {k} hk x y hx hy => by
      have h2 := two_xor x y
      simp only at h2
      show k (2 * (x ^^^ y)) = k (2 * x) ^^^ k (2 * y)
      rw [h2, hk _ _ (by rw [Nat.pow_succ]; omega) (by rw [Nat.pow_succ]; omega)]
    have ih : f (2 * (a / 2)) = g (2 * (a / 2)) := linB_ext n (f := fun x => f (2 * x)) (g := fun x => g (2 * x)) (two hf) (two hg)
      (fun i hi => by have := h (i + 1) (by omega); rw [Nat.pow_succ, Nat.mul_comm] at this; exact this) (a / 2) (by rw [Nat.pow_succ] at ha; omega)
    have hl : 2 * (a / 2) < 2 ^ (n + 1) := by omega
    have hr : a % 2 < 2 ^ (n + 1) := by rw [Nat.pow_succ]; have := Nat.two_pow_pos n; omega
    rw [bits_split a, hf _ _ hl hr, hg _ _ hl hr, ih]
    congr 1
    have h0 := h 0 (by omega)
    rcases Nat.mod_two_eq_zero_or_one a with h2 | h2 <;> rw [h2]
    · rw [hf.zero, hg.zero]
    · exact h0
theorem linN_ext (n : Nat) {f g : Nat → Nat} (hf : LinN f) (hg : LinN g) (h : ∀ i, i < n → f (2 ^ i) = g (2 ^ i)) (a : Nat) (ha : a < 2 ^ n) : f a = g a := linB_ext n (hf.b n) (hg.b n) h a ha

theorem xt_lt {m a : Nat} (hm : Fm m) (ha : a < 2 ^ m) : xt m a < 2 ^ m := by
  apply Nat.lt_pow_two_of_testBit
  intro i hi
  have hp : (pol m).testBit m = true ∧ pol m < 2 ^ (m + 1) := by rcases hm with rfl | rfl <;> decide
  have h2 : 2 * a < 2 ^ (m + 1) := by rw [Nat.pow_succ]; omega
  unfold xt
  rw [Nat.testBit_xor]
  rcases Nat.lt_or_ge m i with h | h
  · have hle : 2 ^ (m + 1) ≤ 2 ^ i := Nat.pow_le_pow_right (by omega) (by omega)
    rw [Nat.testBit_lt_two_pow (Nat.lt_of_lt_of_le h2 hle)]
    split
    · rw [Nat.testBit_lt_two_pow (Nat.lt_of_lt_of_le hp.2 hle)]; rfl
    · simp
  · obtain rfl : i = m := by omega
    cases hb : (2 * a).testBit i
    · simp
    · simp [hp.1]
theorem mulG_lt {m : Nat} (hm : Fm m) : ∀ n a b, a < 2 ^ m → mulG m n a b < 2 ^ m
  | 0, a, b, _ => Nat.two_pow_pos m
  | n + 1, a, b, h => by
    refine Nat.xor_lt_two_pow ?_ (mulG_lt hm n _ _ (xt_lt hm h))
    rcases Nat.mod_two_eq_zero_or_one b with h2 | h2 <;> rw [h2]
    · simpa using Nat.two_pow_pos m
    · simpa using h
theorem mul_lt {m : Nat} (hm : Fm m) {a : Nat} (b : Nat) (h : a < 2 ^ m) : mul m a b < 2 ^ m := mulG_lt hm m a b h
theorem fm_pos {m : Nat} (hm : Fm m) : 2 ≤ m := by rcases hm with rfl | rfl <;> decide
theorem fm_le {m : Nat} (hm : Fm m) : m ≤ 16 := by rcases hm with rfl | rfl <;> decide
theorem fm_one {m : Nat} (hm : Fm m) : 1 < 2 ^ m := by rcases hm with rfl | rfl <;> decide
theorem fm_two {m : Nat} (hm : Fm m) : 2 < 2 ^ m := by rcases hm with rfl | rfl <;> decide
theorem fm_big {m : Nat} (hm : Fm m) : 2 ^ m ≤ 65536 := by rcases hm with rfl | rfl <;> decide

theorem mul_comm {m : Nat} (hm : Fm m) {a b : Nat} (ha : a < 2 ^ m) (hb : b < 2 ^ m) : mul m a b = mul m b a := by
  have base : ∀ i, i < m → ∀ j, j < m → mul m (2 ^ i) (2 ^ j) = mul m (2 ^ j) (2 ^ i) := by
    rcases hm with rfl | rfl <;> decide +kernel
  refine linN_ext m (mul_linL m b) (mul_linR m b) (fun i hi => ?_) a ha
  exact linN_ext m (mul_linR m (2 ^ i)) (mul_linL m (2 ^ i)) (fun j hj => base i hi j hj) b hb
theorem mul_assoc {m : Nat} (hm : Fm m) {a b c : Nat} (ha : a < 2 ^ m) (hb : b < 2 ^ m) (hc : c < 2 ^ m) : mul m (mul m a b) c = mul m a (mul m b c) := by
  rw [mul_comm hm ha hb, mul_right, mul_comm hm (mul_lt hm c hb) ha]
theorem mul_oneR {m : Nat} (hm : Fm m) (a : Nat) : mul m a 1 = a := by
  obtain ⟨n, rfl⟩ : ∃ n, m = n + 1 := ⟨m - 1, by have := fm_pos hm; omega⟩
  show a * (1 % 2) ^^^ mulG (n + 1) n (xt (n + 1) a) (1 / 2) = a
  rw [show 1 / 2 = 0 from rfl, mulG_zeroR, xz, Nat.mul_one]
theorem mul_oneL {m : Nat} (hm : Fm m) {a : Nat} (ha : a < 2 ^ m) : mul m 1 a = a := by rw [mul_comm hm (fm_one hm) ha, mul_oneR hm]
theorem mul_two {m : Nat} (hm : Fm m) (a : Nat) : mul m a 2 = xt m a := by
  obtain ⟨n, rfl⟩ : ∃ n, m = n + 1 + 1 := ⟨m - 2, by have := fm_pos hm; omega⟩
  show a * (2 % 2) ^^^ (xt _ a * (1 % 2) ^^^ mulG (n + 1 + 1) n (xt (n + 1 + 1) (xt (n + 1 + 1) a)) (1 / 2)) = _
  rw [show 1 / 2 = 0 from rfl, mulG_zeroR, xz, Nat.mul_one]
  simp

theorem pw_lt {m : Nat} (hm : Fm m) (a : Nat) : ∀ n, pw m a n < 2 ^ m
  | 0 => fm_one hm
  | n + 1 => mul_lt hm a (pw_lt hm a n)
theorem pw_one {m : Nat} (hm : Fm m) {a : Nat} (ha : a < 2 ^ m) : pw m a 1 = a := mul_oneL hm ha
theorem pw_add {m : Nat} (hm : Fm m) {a : Nat} (ha : a < 2 ^ m) (i : Nat) : ∀ j, pw m a (i + j) = mul m (pw m a i) (pw m a j)
  | 0 => (mul_oneR hm _).symm
  | j + 1 => by
    show mul m (pw m a (i + j)) a = mul m (pw m a i) (mul m (pw m a j) a)
    rw [pw_add hm ha i j, mul_assoc hm (pw_lt hm a i) (pw_lt hm a j) ha]
theorem pw_mul {m : Nat} (hm : Fm m) {a : Nat} (ha : a < 2 ^ m) (i : Nat) : ∀ j, pw m (pw m a i) j = pw m a (i * j)
  | 0 => rfl
  | j + 1 => by
    show mul m (pw m (pw m a i) j) (pw m a i) = _
    rw [pw_mul hm ha i j, ← pw_add hm ha]
    rfl
theorem one_pw {m : Nat} (hm : Fm m) : ∀ n, pw m 1 n = 1
  | 0 => rfl
  | n + 1 => by show mul m (pw m 1 n) 1 = 1; rw [one_pw hm n, mul_oneR hm]
theorem zero_pw {m : Nat} (n : Nat) (h : 0 < n) : pw m 0 n = 0 := by
  obtain ⟨k, rfl⟩ : ∃ k, n = k + 1 := ⟨n - 1, by omega⟩
  exact mul_zeroR m _
theorem pw_two {m : Nat} (hm : Fm m) {a : Nat} (ha : a < 2 ^ m) (k : Nat) : pw m (mul m a a) k = pw m a (2 * k) := by
  have h : mul m a a = pw m a 2 := by show _ = mul m (mul m 1 a) a; rw [mul_oneL hm ha]
  rw [h, pw_mul hm ha]
theorem pw_prod {m : Nat} (hm : Fm m) {a b : Nat} (ha : a < 2 ^ m) (hb : b < 2 ^ m) : ∀ n, pw m (mul m a b) n = mul m (pw m a n) (pw m b n)
  | 0 => (mul_oneR hm 1).symm
  | n + 1 => by
    show mul m (pw m (mul m a b) n) (mul m a b) = mul m (mul m (pw m a n) a) (mul m (pw m b n) b)
    rw [pw_prod hm ha hb n]
    have h1 := pw_lt hm a n
    have h2 := pw_lt hm b n
    rw [mul_assoc hm h1 h2 (mul_lt hm b ha), ← mul_assoc hm h2 ha hb, mul_comm hm h2 ha, mul_assoc hm ha h2 hb, ← mul_assoc hm h1 ha (mul_lt hm b h2)]

/-- Squaring, again and again. -/
def sqs (m : Nat) : Nat → Nat → Nat
  | 0, a => a
  | k + 1, a => sqs m k (mul m a a)
theorem sqs_pw {m : Nat} (hm : Fm m) : ∀ k {a : Nat}, a < 2 ^ m → sqs m k a = pw m a (2 ^ k)
  | 0, a, ha => (pw_one hm ha).symm
  | k + 1, a, ha => by
    show sqs m k (mul m a a) = _
    rw [sqs_pw hm k (mul_lt hm a ha), pw_two hm ha, Nat.pow_succ, Nat.mul_comm]
theorem sq_xor {m : Nat} (hm : Fm m) {a b : Nat} (ha : a < 2 ^ m) (hb : b < 2 ^ m) : mul m (a ^^^ b) (a ^^^ b) = mul m a a ^^^ mul m b b := by
  rw [mulL, mulR, mulR, mul_comm hm hb ha, xa, ← xa (mul m a b), xs, zx]

end Go.Proofs.YtpjgmekpnlpjaaaDoor
