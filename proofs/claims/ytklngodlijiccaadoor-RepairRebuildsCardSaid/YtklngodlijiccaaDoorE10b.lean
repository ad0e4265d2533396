/-
  What stage 10 stands on, cut out of older texts. (FldA, FldB, FldC, FldU, FldN, FldM, FldW, FldP, FldF, FldRm, FldRi, FldOk, FldD, FldR.)
-/
import Derived.WalkKit
import Derived.Laws.BitsAllLaws
import Derived.Deep.LoopGhost
import Derived.Test.YtklngodlijiccaaDoorRows
import Derived.Lib.SlBytesConst
import Derived.Lib.ConvBytes
import Derived.Shelf.RegionOpen
import Derived.OwnWalkIn
import Derived.TacticsInMore
import Derived.LoopNIn
import Derived.LoopIn
import Derived.Test.YtklngodlijiccaaDoorE10a
namespace Go.Proofs.YtklngodlijiccaaDoor
set_option linter.unusedVariables false
set_option linter.unusedSimpArgs false
set_option linter.unusedSectionVars false

section
set_option linter.unusedVariables false
set_option linter.unusedSimpArgs false
/-- The field's polynomial. -/
def pol (m : Nat) : Nat := if m = 8 then 285 else 69643
def Fm (m : Nat) : Prop := m = 8 ∨ m = 16
/-- Times x. -/
def xt (m a : Nat) : Nat := (2 * a) ^^^ (if (2 * a).testBit m then pol m else 0)
def mulG (m : Nat) : Nat → Nat → Nat → Nat
  | 0, _, _ => 0
  | n + 1, a, b => (a * (b % 2)) ^^^ mulG m n (xt m a) (b / 2)
def mul (m a b : Nat) : Nat := mulG m m a b
def pw (m a : Nat) : Nat → Nat
  | 0 => 1
  | n + 1 => mul m (pw m a n) a
def LinN (f : Nat → Nat) : Prop := ∀ a b, f (a ^^^ b) = f a ^^^ f b
theorem xz (a : Nat) : a ^^^ 0 = a := Nat.xor_zero a
theorem zx (a : Nat) : 0 ^^^ a = a := Nat.zero_xor a
theorem xs (a : Nat) : a ^^^ a = 0 := Nat.xor_self a
theorem xc (a b : Nat) : a ^^^ b = b ^^^ a := Nat.xor_comm a b
theorem xa (a b c : Nat) : a ^^^ b ^^^ c = a ^^^ (b ^^^ c) := Nat.xor_assoc a b c
theorem xl (a b c : Nat) : a ^^^ (b ^^^ c) = b ^^^ (a ^^^ c) := by rw [← xa, xc a b, xa]
theorem xx (a b c d : Nat) : (a ^^^ b) ^^^ (c ^^^ d) = (a ^^^ c) ^^^ (b ^^^ d) := by rw [xa, xl b, ← xa]
theorem xe {a b : Nat} (h : a ^^^ b = 0) : a = b := by
  have : a ^^^ (a ^^^ b) = b := by rw [← xa, xs, zx]
  rw [h, xz] at this
  exact this
theorem LinN.zero {f : Nat → Nat} (h : LinN f) : f 0 = 0 := by
  have := h 0 0
  rw [xs] at this
  have h2 := xs (f 0)
  rw [← this] at h2
  exact h2
theorem LinN.add {f g : Nat → Nat} (hf : LinN f) (hg : LinN g) : LinN (fun a => f a ^^^ g a) := fun a b => by
  show f (a ^^^ b) ^^^ g (a ^^^ b) = _
  rw [hf, hg, xx]
theorem two_xor : LinN (fun a => 2 * a) := fun a b => by
  apply Nat.eq_of_testBit_eq
  intro i
  simp only [Nat.testBit_xor]
  cases i with
  | zero => simp
  | succ i => rw [Nat.testBit_succ, Nat.testBit_succ, Nat.testBit_succ]; simp [Nat.testBit_xor]
theorem half_xor : LinN (fun a => a / 2) := fun a b => by
  apply Nat.eq_of_testBit_eq
  intro i
  simp only [Nat.testBit_xor, Nat.testBit_div_two]
theorem mod2_xor (a b : Nat) : (a ^^^ b) % 2 = (a % 2) ^^^ (b % 2) := by
  have h := Nat.xor_mod_two_pow (a := a) (b := b) (n := 1)
  simpa using h
theorem bit_times (c a b : Nat) : c * ((a ^^^ b) % 2) = (c * (a % 2)) ^^^ (c * (b % 2)) := by
  rw [mod2_xor]
  rcases Nat.mod_two_eq_zero_or_one a with h | h <;> rcases Nat.mod_two_eq_zero_or_one b with h2 | h2 <;> rw [h, h2] <;> simp
theorem times_bit (a b c : Nat) : (a ^^^ b) * (c % 2) = (a * (c % 2)) ^^^ (b * (c % 2)) := by
  rcases Nat.mod_two_eq_zero_or_one c with h | h <;> rw [h] <;> simp
theorem xt_lin (m : Nat) : LinN (xt m) := fun a b => by
  unfold xt
  have h := two_xor a b
  simp only at h
  rw [h, Nat.testBit_xor]
  generalize 2 * a = A
  generalize 2 * b = B
  generalize pol m = p
  cases A.testBit m <;> cases B.testBit m
  · show A ^^^ B ^^^ 0 = (A ^^^ 0) ^^^ (B ^^^ 0)
    rw [xz, xz, xz]
  · show A ^^^ B ^^^ p = (A ^^^ 0) ^^^ (B ^^^ p)
    rw [xz, xa]
  · show A ^^^ B ^^^ p = (A ^^^ p) ^^^ (B ^^^ 0)
    rw [xz, xa, xc B, ← xa]
  · show A ^^^ B ^^^ 0 = (A ^^^ p) ^^^ (B ^^^ p)
    rw [xx, xs]
theorem mulGL (m : Nat) : ∀ n b a c, mulG m n (a ^^^ c) b = mulG m n a b ^^^ mulG m n c b
  | 0, b, a, c => (xs 0).symm
  | n + 1, b, a, c => by
    show (a ^^^ c) * (b % 2) ^^^ mulG m n (xt m (a ^^^ c)) (b / 2) = (a * (b % 2) ^^^ mulG m n (xt m a) (b / 2)) ^^^ (c * (b % 2) ^^^ mulG m n (xt m c) (b / 2))
    rw [times_bit, xt_lin, mulGL m n _ (xt m a) (xt m c), xx]
theorem mulGR (m : Nat) : ∀ n a b c, mulG m n a (b ^^^ c) = mulG m n a b ^^^ mulG m n a c
  | 0, a, b, c => (xs 0).symm
  | n + 1, a, b, c => by
    show a * ((b ^^^ c) % 2) ^^^ mulG m n (xt m a) ((b ^^^ c) / 2) = (a * (b % 2) ^^^ mulG m n (xt m a) (b / 2)) ^^^ (a * (c % 2) ^^^ mulG m n (xt m a) (c / 2))
    have h := half_xor b c
    simp only at h
    rw [bit_times, h, mulGR m n _ (b / 2) (c / 2), xx]
theorem mulG_linL (m : Nat) (n b : Nat) : LinN (fun a => mulG m n a b) := fun a c => mulGL m n b a c
theorem mulG_linR (m : Nat) (n a : Nat) : LinN (fun b => mulG m n a b) := fun b c => mulGR m n a b c
theorem mul_linL (m b : Nat) : LinN (fun a => mul m a b) := mulG_linL m m b
theorem mul_linR (m a : Nat) : LinN (fun b => mul m a b) := mulG_linR m m a
theorem mulL (m a b c : Nat) : mul m (a ^^^ b) c = mul m a c ^^^ mul m b c := mul_linL m c a b
theorem mulR (m a b c : Nat) : mul m a (b ^^^ c) = mul m a b ^^^ mul m a c := mul_linR m a b c
theorem mulG_zeroR (m : Nat) (n a : Nat) : mulG m n a 0 = 0 := (mulG_linR m n a).zero
theorem mulG_zeroL (m : Nat) (n b : Nat) : mulG m n 0 b = 0 := (mulG_linL m n b).zero
theorem mul_zeroR (m a : Nat) : mul m a 0 = 0 := mulG_zeroR m m a
theorem mul_zeroL (m b : Nat) : mul m 0 b = 0 := mulG_zeroL m m b
theorem xt_mulG (m : Nat) : ∀ n a b, mulG m n (xt m a) b = xt m (mulG m n a b)
  | 0, a, b => (xt_lin m).zero.symm
  | n + 1, a, b => by
    show xt m a * (b % 2) ^^^ mulG m n (xt m (xt m a)) (b / 2) = xt m (a * (b % 2) ^^^ mulG m n (xt m a) (b / 2))
    rw [xt_lin, xt_mulG m n]
    congr 1
    rcases Nat.mod_two_eq_zero_or_one b with h | h <;> rw [h]
    · rw [Nat.mul_zero, Nat.mul_zero, (xt_lin m).zero]
    · rw [Nat.mul_one, Nat.mul_one]
theorem mulG_right (m k : Nat) (c : Nat) : ∀ n a b, mulG m k (mulG m n a b) c = mulG m n (mulG m k a c) b
  | 0, a, b => mulG_zeroL m k c
  | n + 1, a, b => by
    show mulG m k (a * (b % 2) ^^^ mulG m n (xt m a) (b / 2)) c = mulG m k a c * (b % 2) ^^^ mulG m n (xt m (mulG m k a c)) (b / 2)
    rw [mulGL, mulG_right m k c n, xt_mulG m k a c]
    congr 1
    rcases Nat.mod_two_eq_zero_or_one b with h | h <;> rw [h]
    · rw [Nat.mul_zero, Nat.mul_zero, mulG_zeroL]
    · rw [Nat.mul_one, Nat.mul_one]
/-- (a b) c = (a c) b. -/
theorem mul_right (m a b c : Nat) : mul m (mul m a b) c = mul m (mul m a c) b := mulG_right m m c m a b
/-- Linear on what is less than 2^n. -/
def LinB (n : Nat) (f : Nat → Nat) : Prop := ∀ a b, a < 2 ^ n → b < 2 ^ n → f (a ^^^ b) = f a ^^^ f b
theorem LinN.b {f : Nat → Nat} (h : LinN f) (n : Nat) : LinB n f := fun a b _ _ => h a b
theorem LinB.zero {n : Nat} {f : Nat → Nat} (h : LinB n f) : f 0 = 0 := by
  have := h 0 0 (Nat.two_pow_pos n) (Nat.two_pow_pos n)
  rw [xs] at this
  have h2 := xs (f 0)
  rw [← this] at h2
  exact h2
theorem bits_split (a : Nat) : a = (2 * (a / 2)) ^^^ (a % 2) := by
  apply Nat.eq_of_testBit_eq
  intro i
  rw [Nat.testBit_xor]
  cases i with
  | zero => simp
  | succ i =>
    rw [Nat.testBit_succ, Nat.testBit_succ, Nat.testBit_succ, show 2 * (a / 2) / 2 = a / 2 by omega, show a % 2 / 2 = 0 by omega]
    simp
/-- A linear map is known by its values at the single bits. -/
theorem linB_ext : ∀ (n : Nat) {f g : Nat → Nat}, LinB n f → LinB n g → (∀ i, i < n → f (2 ^ i) = g (2 ^ i)) → ∀ a, a < 2 ^ n → f a = g a
  | 0, f, g, hf, hg, _, a, ha => by
    obtain rfl : a = 0 := by simpa using ha
    rw [hf.zero, hg.zero]
  | n + 1, f, g, hf, hg, h, a, ha => by
    have two : ∀ {k : Nat → Nat}, LinB (n + 1) k → LinB n (fun x => k (2 * x)) := fun {k} hk x y hx hy => by
      have h2 := two_xor x y
      simp only at h2
      show k (2 * (x ^^^ y)) = k (2 * x) ^^^ k (2 * y)
      rw [h2, hk _ _ (by rw [Nat.pow_succ]; omega) (by rw [Nat.pow_succ]; omega)]
    have ih : f (2 * (a / 2)) = g (2 * (a / 2)) := linB_ext n (f := fun x => f (2 * x)) (g := fun x => g (2 * x)) (two hf) (two hg)
      (fun i hi => by have := h (i + 1) (by omega); rw [Nat.pow_succ, Nat.mul_comm] at this; exact this) (a / 2) (by rw [Nat.pow_succ] at ha; omega)
    have hl : 2 * (a / 2) < 2 ^ (n + 1) := by omega
    have hr : a % 2 < 2 ^ (n + 1) := by rw [Nat.pow_succ]; have := Nat.two_pow_pos n; omega
    rw [bits_split a, hf _ _ hl hr, hg _ _ hl hr, ih]
    congr 1
    have h0 := h 0 (by omega)
    rcases Nat.mod_two_eq_zero_or_one a with h2 | h2 <;> rw [h2]
    · rw [hf.zero, hg.zero]
    · exact h0
theorem linN_ext (n : Nat) {f g : Nat → Nat} (hf : LinN f) (hg : LinN g) (h : ∀ i, i < n → f (2 ^ i) = g (2 ^ i)) (a : Nat) (ha : a < 2 ^ n) : f a = g a := linB_ext n (hf.b n) (hg.b n) h a ha
theorem xt_lt {m a : Nat} (hm : Fm m) (ha : a < 2 ^ m) : xt m a < 2 ^ m := by
  apply Nat.lt_pow_two_of_testBit
  intro i hi
  have hp : (pol m).testBit m = true ∧ pol m < 2 ^ (m + 1) := by rcases hm with rfl | rfl <;> decide
  have h2 : 2 * a < 2 ^ (m + 1) := by rw [Nat.pow_succ]; omega
  unfold xt
  rw [Nat.testBit_xor]
  rcases Nat.lt_or_ge m i with h | h
  · have hle : 2 ^ (m + 1) ≤ 2 ^ i := Nat.pow_le_pow_right (by omega) (by omega)
    rw [Nat.testBit_lt_two_pow (Nat.lt_of_lt_of_le h2 hle)]
    split
    · rw [Nat.testBit_lt_two_pow (Nat.lt_of_lt_of_le hp.2 hle)]; rfl
    · simp
  · obtain rfl : i = m := by omega
    cases hb : (2 * a).testBit i
    · simp
    · simp [hp.1]
theorem mulG_lt {m : Nat} (hm : Fm m) : ∀ n a b, a < 2 ^ m → mulG m n a b < 2 ^ m
  | 0, a, b, _ => Nat.two_pow_pos m
  | n + 1, a, b, h => by
    refine Nat.xor_lt_two_pow ?_ (mulG_lt hm n _ _ (xt_lt hm h))
    rcases Nat.mod_two_eq_zero_or_one b with h2 | h2 <;> rw [h2]
    · simpa using Nat.two_pow_pos m
    · simpa using h
theorem mul_lt {m : Nat} (hm : Fm m) {a : Nat} (b : Nat) (h : a < 2 ^ m) : mul m a b < 2 ^ m := mulG_lt hm m a b h
theorem fm_pos {m : Nat} (hm : Fm m) : 2 ≤ m := by rcases hm with rfl | rfl <;> decide
theorem fm_le {m : Nat} (hm : Fm m) : m ≤ 16 := by rcases hm with rfl | rfl <;> decide
theorem fm_one {m : Nat} (hm : Fm m) : 1 < 2 ^ m := by rcases hm with rfl | rfl <;> decide
theorem fm_two {m : Nat} (hm : Fm m) : 2 < 2 ^ m := by rcases hm with rfl | rfl <;> decide
theorem fm_big {m : Nat} (hm : Fm m) : 2 ^ m ≤ 65536 := by rcases hm with rfl | rfl <;> decide
theorem mul_comm {m : Nat} (hm : Fm m) {a b : Nat} (ha : a < 2 ^ m) (hb : b < 2 ^ m) : mul m a b = mul m b a := by
  have base : ∀ i, i < m → ∀ j, j < m → mul m (2 ^ i) (2 ^ j) = mul m (2 ^ j) (2 ^ i) := by
    rcases hm with rfl | rfl <;> decide +kernel
  refine linN_ext m (mul_linL m b) (mul_linR m b) (fun i hi => ?_) a ha
  exact linN_ext m (mul_linR m (2 ^ i)) (mul_linL m (2 ^ i)) (fun j hj => base i hi j hj) b hb
theorem mul_assoc {m : Nat} (hm : Fm m) {a b c : Nat} (ha : a < 2 ^ m) (hb : b < 2 ^ m) (hc : c < 2 ^ m) : mul m (mul m a b) c = mul m a (mul m b c) := by
  rw [mul_comm hm ha hb, mul_right, mul_comm hm (mul_lt hm c hb) ha]
theorem mul_oneR {m : Nat} (hm : Fm m) (a : Nat) : mul m a 1 = a := by
  obtain ⟨n, rfl⟩ : ∃ n, m = n + 1 := ⟨m - 1, by have := fm_pos hm; omega⟩
  show a * (1 % 2) ^^^ mulG (n + 1) n (xt (n + 1) a) (1 / 2) = a
  rw [show 1 / 2 = 0 from rfl, mulG_zeroR, xz, Nat.mul_one]
theorem mul_oneL {m : Nat} (hm : Fm m) {a : Nat} (ha : a < 2 ^ m) : mul m 1 a = a := by rw [mul_comm hm (fm_one hm) ha, mul_oneR hm]
theorem pw_lt {m : Nat} (hm : Fm m) (a : Nat) : ∀ n, pw m a n < 2 ^ m
  | 0 => fm_one hm
  | n + 1 => mul_lt hm a (pw_lt hm a n)
theorem pw_one {m : Nat} (hm : Fm m) {a : Nat} (ha : a < 2 ^ m) : pw m a 1 = a := mul_oneL hm ha
theorem pw_add {m : Nat} (hm : Fm m) {a : Nat} (ha : a < 2 ^ m) (i : Nat) : ∀ j, pw m a (i + j) = mul m (pw m a i) (pw m a j)
  | 0 => (mul_oneR hm _).symm
  | j + 1 => by
    show mul m (pw m a (i + j)) a = mul m (pw m a i) (mul m (pw m a j) a)
    rw [pw_add hm ha i j, mul_assoc hm (pw_lt hm a i) (pw_lt hm a j) ha]
theorem pw_mul {m : Nat} (hm : Fm m) {a : Nat} (ha : a < 2 ^ m) (i : Nat) : ∀ j, pw m (pw m a i) j = pw m a (i * j)
  | 0 => rfl
  | j + 1 => by
    show mul m (pw m (pw m a i) j) (pw m a i) = _
    rw [pw_mul hm ha i j, ← pw_add hm ha]
    rfl
theorem one_pw {m : Nat} (hm : Fm m) : ∀ n, pw m 1 n = 1
  | 0 => rfl
  | n + 1 => by show mul m (pw m 1 n) 1 = 1; rw [one_pw hm n, mul_oneR hm]
theorem zero_pw {m : Nat} (n : Nat) (h : 0 < n) : pw m 0 n = 0 := by
  obtain ⟨k, rfl⟩ : ∃ k, n = k + 1 := ⟨n - 1, by omega⟩
  exact mul_zeroR m _
theorem pw_two {m : Nat} (hm : Fm m) {a : Nat} (ha : a < 2 ^ m) (k : Nat) : pw m (mul m a a) k = pw m a (2 * k) := by
  have h : mul m a a = pw m a 2 := by show _ = mul m (mul m 1 a) a; rw [mul_oneL hm ha]
  rw [h, pw_mul hm ha]
/-- Squaring, again and again. -/
def sqs (m : Nat) : Nat → Nat → Nat
  | 0, a => a
  | k + 1, a => sqs m k (mul m a a)
theorem sqs_pw {m : Nat} (hm : Fm m) : ∀ k {a : Nat}, a < 2 ^ m → sqs m k a = pw m a (2 ^ k)
  | 0, a, ha => (pw_one hm ha).symm
  | k + 1, a, ha => by
    show sqs m k (mul m a a) = _
    rw [sqs_pw hm k (mul_lt hm a ha), pw_two hm ha, Nat.pow_succ, Nat.mul_comm]
theorem sq_xor {m : Nat} (hm : Fm m) {a b : Nat} (ha : a < 2 ^ m) (hb : b < 2 ^ m) : mul m (a ^^^ b) (a ^^^ b) = mul m a a ^^^ mul m b b := by
  rw [mulL, mulR, mulR, mul_comm hm hb ha, xa, ← xa (mul m a b), xs, zx]
end

section
set_option linter.unusedVariables false
set_option linter.unusedSimpArgs false
def qm (m : Nat) : Nat := 2 ^ m - 1
def rt (m : Nat) : Nat := 2 ^ (m / 2)
theorem qm_lit {m : Nat} (hm : Fm m) : (m = 8 ∧ qm m = 255 ∧ 2 ^ m = 256 ∧ rt m = 16) ∨ (m = 16 ∧ qm m = 65535 ∧ 2 ^ m = 65536 ∧ rt m = 256) := by
  rcases hm with rfl | rfl
  · left; decide
  · right; decide
theorem sqs_lin {m : Nat} (hm : Fm m) : ∀ k, LinB m (sqs m k)
  | 0 => fun _ _ _ _ => rfl
  | k + 1 => fun a b ha hb => by
    show sqs m k (mul m (a ^^^ b) (a ^^^ b)) = sqs m k (mul m a a) ^^^ sqs m k (mul m b b)
    rw [sq_xor hm ha hb, sqs_lin hm k _ _ (mul_lt hm a ha) (mul_lt hm b hb)]
theorem frob {m : Nat} (hm : Fm m) {a : Nat} (ha : a < 2 ^ m) : pw m a (2 ^ m) = a := by
  rw [← sqs_pw hm m ha]
  refine linB_ext m (g := fun x => x) (sqs_lin hm m) (fun _ _ _ _ => rfl) ?_ a ha
  rcases hm with rfl | rfl <;> decide +kernel
def lapp : List Nat → Nat → Nat
  | [], _ => 0
  | c :: r, y => (c * (y % 2)) ^^^ lapp r (y / 2)
theorem lapp_lin : ∀ l, LinN (lapp l)
  | [] => fun _ _ => (xs 0).symm
  | c :: r => fun a b => by
    show c * ((a ^^^ b) % 2) ^^^ lapp r ((a ^^^ b) / 2) = (c * (a % 2) ^^^ lapp r (a / 2)) ^^^ (c * (b % 2) ^^^ lapp r (b / 2))
    have h := half_xor a b
    simp only at h
    rw [bit_times, h, lapp_lin r, xx]
def lcol (m : Nat) : List Nat := if m = 8 then [214, 232, 234, 44, 238, 0, 36, 80] else [350, 42420, 42422, 7412, 42418, 10272, 7420, 1328, 42402, 38610, 10240, 5068, 7356, 0, 1456, 21936]
theorem idem {m : Nat} (hm : Fm m) {e : Nat} (he : e < 2 ^ m) (h : mul m e e = e) : e = 0 ∨ e = 1 := by
  have key : lapp (lcol m) (mul m e e ^^^ e) = e ^^^ (e % 2) := by
    refine linB_ext m (f := fun x => lapp (lcol m) (mul m x x ^^^ x)) (g := fun x => x ^^^ (x % 2)) (fun a b ha hb => ?_) (fun a b _ _ => ?_) ?_ e he
    · show lapp _ (mul m (a ^^^ b) (a ^^^ b) ^^^ (a ^^^ b)) = _
      rw [sq_xor hm ha hb, xx, lapp_lin]
    · show (a ^^^ b) ^^^ ((a ^^^ b) % 2) = _
      rw [mod2_xor, xx]
    · rcases hm with rfl | rfl <;> decide +kernel
  rw [h, xs, (lapp_lin _).zero] at key
  have := xe key.symm
  omega
theorem qm_pos {m : Nat} (hm : Fm m) : 2 ≤ qm m ∧ qm m + 1 = 2 ^ m := by rcases hm with rfl | rfl <;> decide
theorem pw_q {m : Nat} (hm : Fm m) {a : Nat} (ha : a < 2 ^ m) (h0 : a ≠ 0) : pw m a (qm m) = 1 := by
  obtain ⟨h2, h3⟩ := qm_pos hm
  have hf := frob hm ha
  rcases idem hm (pw_lt hm a (qm m)) (by
      rw [← pw_add hm ha, show qm m + qm m = 2 ^ m + (qm m - 1) by omega, pw_add hm ha, hf]
      have := pw_add hm ha 1 (qm m - 1)
      rw [pw_one hm ha] at this
      rw [← this]
      congr 1; omega) with h | h
  · exfalso
    have : pw m a (qm m + 1) = 0 := by
      show mul m (pw m a (qm m)) a = 0
      rw [h, mul_zeroL]
    rw [h3, hf] at this
    exact h0 this
  · exact h
theorem pw_mod {m : Nat} (hm : Fm m) {a : Nat} (ha : a < 2 ^ m) (h0 : a ≠ 0) (n : Nat) : pw m a n = pw m a (n % qm m) := by
  have h := pw_add hm ha (qm m * (n / qm m)) (n % qm m)
  rw [Nat.div_add_mod, ← pw_mul hm ha, pw_q hm ha h0, one_pw hm, mul_oneL hm (pw_lt hm a _)] at h
  exact h
theorem pw_ne {m : Nat} (hm : Fm m) {a : Nat} (ha : a < 2 ^ m) (h0 : a ≠ 0) (n : Nat) : pw m a n ≠ 0 := by
  intro h
  have h1 := pw_mul hm ha n (qm m)
  rw [h, zero_pw _ (by have := qm_pos hm; omega), Nat.mul_comm, ← pw_mul hm ha, pw_q hm ha h0, one_pw hm] at h1
  cases h1
/-- The inverse. -/
def inv (m a : Nat) : Nat := pw m a (qm m - 1)
theorem inv_lt {m : Nat} (hm : Fm m) (a : Nat) : inv m a < 2 ^ m := pw_lt hm a _
theorem mul_inv {m : Nat} (hm : Fm m) {a : Nat} (ha : a < 2 ^ m) (h0 : a ≠ 0) : mul m a (inv m a) = 1 := by
  have h := pw_add hm ha 1 (qm m - 1)
  rw [pw_one hm ha, show 1 + (qm m - 1) = qm m by have := qm_pos hm; omega, pw_q hm ha h0] at h
  exact h.symm
theorem mul_back {m : Nat} (hm : Fm m) {a x : Nat} (ha : a < 2 ^ m) (hx : x < 2 ^ m) (h0 : a ≠ 0) : mul m (mul m x a) (inv m a) = x := by
  rw [mul_assoc hm hx ha (inv_lt hm a), mul_inv hm ha h0, mul_oneR hm]
theorem mul_cancel {m : Nat} (hm : Fm m) {a x y : Nat} (ha : a < 2 ^ m) (hx : x < 2 ^ m) (hy : y < 2 ^ m) (h0 : a ≠ 0) (h : mul m a x = mul m a y) : x = y := by
  rw [mul_comm hm ha hx, mul_comm hm ha hy] at h
  rw [← mul_back hm ha hx h0, h, mul_back hm ha hy h0]
theorem mul_ne {m : Nat} (hm : Fm m) {a b : Nat} (ha : a < 2 ^ m) (hb : b < 2 ^ m) (h0 : a ≠ 0) (h1 : b ≠ 0) : mul m a b ≠ 0 := fun h => h1 (mul_cancel hm ha hb (Nat.two_pow_pos m) h0 (by rw [h, mul_zeroR]))
theorem fp_step {m : Nat} (hm : Fm m) {p a : Nat} (hp : p < 2 ^ m) (ha : a < 2 ^ m) (n : Nat) : mul m (if n % 2 = 1 then mul m p a else p) (pw m (mul m a a) (n / 2)) = mul m p (pw m a n) := by
  rw [pw_two hm ha]
  rcases Nat.mod_two_eq_zero_or_one n with h | h <;> rw [h]
  · rw [if_neg (by decide), show 2 * (n / 2) = n by omega]
  · rw [if_pos rfl, mul_assoc hm hp ha (pw_lt hm a _)]
    have h2 := pw_add hm ha 1 (2 * (n / 2))
    rw [pw_one hm ha, show 1 + 2 * (n / 2) = n by omega] at h2
    rw [h2]
end

section
set_option linter.unusedVariables false
set_option linter.unusedSimpArgs false
/-- The power with a whole exponent: the exponent that the program takes. -/
def ex (m : Nat) (n : Int) : Nat := if n < 0 then (n.tmod (qm m : Int) + (qm m : Int)).toNat else n.toNat
def pwZ (m a : Nat) (n : Int) : Nat := pw m a (ex m n)
theorem tmod_neg (n : Int) (q : Nat) (h : n < 0) : n.tmod (q : Int) = -(((-n).toNat % q : Nat) : Int) := by
  obtain ⟨k, rfl⟩ : ∃ k : Nat, n = -(k : Int) := ⟨(-n).toNat, by omega⟩
  rw [Int.neg_tmod, Int.neg_neg, Int.toNat_natCast]
  rw [Int.tmod_eq_emod_of_nonneg (by omega)]
  rfl
/-- The exponent's class. -/
def cls (m : Nat) (n : Int) : Nat := (n % (qm m : Int)).toNat
theorem ex_mod {m : Nat} (hm : Fm m) (n : Int) : ex m n % qm m = cls m n := by
  unfold ex cls
  by_cases h : n < 0
  · rw [if_pos h, tmod_neg n _ h]
    rcases qm_lit hm with ⟨rfl, hq, _⟩ | ⟨rfl, hq, _⟩ <;> rw [hq] <;> omega
  · rw [if_neg h]
    rcases qm_lit hm with ⟨rfl, hq, _⟩ | ⟨rfl, hq, _⟩ <;> rw [hq] <;> omega
theorem pwZ_cls {m : Nat} (hm : Fm m) {a : Nat} (ha : a < 2 ^ m) (h0 : a ≠ 0) (n : Int) : pwZ m a n = pw m a (cls m n) := by
  unfold pwZ
  rw [pw_mod hm ha h0, ex_mod hm]
theorem pwZ_lt {m : Nat} (hm : Fm m) (a : Nat) (n : Int) : pwZ m a n < 2 ^ m := pw_lt hm a _
theorem cls_neg {m : Nat} (hm : Fm m) : cls m (-1) = qm m - 1 := by
  unfold cls
  rcases qm_lit hm with ⟨rfl, hq, _⟩ | ⟨rfl, hq, _⟩ <;> rw [hq] <;> decide
theorem pwZ_inv {m : Nat} (hm : Fm m) {a : Nat} (ha : a < 2 ^ m) (h0 : a ≠ 0) : pwZ m a (-1) = inv m a := by
  rw [pwZ_cls hm ha h0, cls_neg hm]; rfl
theorem xt_prog {m : Nat} (hm : Fm m) {a : Nat} (ha : a < 2 ^ m) : (2 * a) ^^^ (pol m * (2 * a / 2 ^ m)) = xt m a := by
  unfold xt
  congr 1
  have h2 : (2 * a) / 2 ^ m = if (2 * a).testBit m then 1 else 0 := by
    have h3 : 2 * a < 2 * 2 ^ m := by omega
    have h4 : (2 * a) / 2 ^ m < 2 := by rw [Nat.div_lt_iff_lt_mul (Nat.two_pow_pos m)]; omega
    rw [Nat.testBit_eq_decide_div_mod_eq]
    generalize (2 * a) / 2 ^ m = x at *
    rcases (show x = 0 ∨ x = 1 by omega) with rfl | rfl <;> rfl
  rw [h2]
  split <;> simp
theorem xt_ref {m : Nat} (hm : Fm m) {a : Nat} (ha : a < 2 ^ m) : (if 2 ^ m ≤ 2 * a then (2 * a) ^^^ pol m else 2 * a) = xt m a := by
  unfold xt
  have h4 : (2 * a) / 2 ^ m < 2 := by rw [Nat.div_lt_iff_lt_mul (Nat.two_pow_pos m)]; omega
  have h5 := Nat.div_add_mod (2 * a) (2 ^ m)
  have h6 := Nat.mod_lt (2 * a) (Nat.two_pow_pos m)
  rw [Nat.testBit_eq_decide_div_mod_eq]
  by_cases h : 2 ^ m ≤ 2 * a
  · have : (2 * a) / 2 ^ m = 1 := by
      have := Nat.div_pos h (Nat.two_pow_pos m); omega
    rw [if_pos h, this]; rfl
  · have : (2 * a) / 2 ^ m = 0 := Nat.div_eq_of_lt (by omega)
    rw [if_neg h, this]
    simp
/-- What is left of a product. -/
theorem mulG_more (m : Nat) : ∀ n a b, b < 2 ^ n → mulG m (n + 1) a b = mulG m n a b
  | 0, a, b, h => by
    obtain rfl : b = 0 := by simpa using h
    rw [mulG_zeroR, mulG_zeroR]
  | n + 1, a, b, h => by
    show a * (b % 2) ^^^ mulG m (n + 1) (xt m a) (b / 2) = a * (b % 2) ^^^ mulG m n (xt m a) (b / 2)
    rw [mulG_more m n _ _ (by rw [Nat.pow_succ] at h; omega)]
/-- A product without a bound on the steps. -/
def ml (m a b : Nat) : Nat := mulG m b a b
theorem mulG_any (m : Nat) : ∀ k n a b, b < 2 ^ n → mulG m (n + k) a b = mulG m n a b
  | 0, _, _, _, _ => rfl
  | k + 1, n, a, b, h => by
    rw [← Nat.add_assoc, mulG_more m (n + k) a b (Nat.lt_of_lt_of_le h (Nat.pow_le_pow_right (by omega) (by omega))), mulG_any m k n a b h]
theorem ml_eq (m n a b : Nat) (h : b < 2 ^ n) : ml m a b = mulG m n a b := by
  unfold ml
  rcases Nat.le_total b n with hle | hle
  · have := mulG_any m (n - b) b a b Nat.lt_two_pow_self
    rw [show b + (n - b) = n by omega] at this
    exact this.symm
  · have := mulG_any m (b - n) n a b h
    rw [show n + (b - n) = b by omega] at this
    exact this
theorem ml_mul (m a b : Nat) (h : b < 2 ^ m) : ml m a b = mul m a b := ml_eq m m a b h
theorem ml_step (m a b : Nat) : ml m a b = (a * (b % 2)) ^^^ ml m (xt m a) (b / 2) := by
  have h1 := ml_eq m (b + 1) a b (Nat.lt_of_lt_of_le Nat.lt_two_pow_self (Nat.pow_le_pow_right (by omega) (by omega)))
  have h2 := ml_eq m b (xt m a) (b / 2) (Nat.lt_of_le_of_lt (Nat.div_le_self b 2) Nat.lt_two_pow_self)
  rw [h1, h2]
  rfl
theorem ml_zero (m a : Nat) : ml m a 0 = 0 := rfl
theorem step_lt {m : Nat} (hm : Fm m) {s a : Nat} (b : Nat) (hs : s < 2 ^ m) (ha : a < 2 ^ m) : s ^^^ (a * (b % 2)) < 2 ^ m := by
  refine Nat.xor_lt_two_pow hs ?_
  rcases Nat.mod_two_eq_zero_or_one b with h2 | h2 <;> rw [h2]
  · simpa using Nat.two_pow_pos m
  · simpa using ha
end

section
set_option linter.unusedVariables false
set_option linter.unusedSimpArgs false
/-- The sum of two byte sequences. -/
def xr (a b : List UInt8) : List UInt8 := List.zipWith (· ^^^ ·) a b
theorem xr_len (a b : List UInt8) (h : a.length = b.length) : (xr a b).length = a.length := by
  unfold xr; rw [List.length_zipWith, ← h, Nat.min_self]
theorem xr_cons (x y : UInt8) (a b : List UInt8) : xr (x :: a) (y :: b) = (x ^^^ y) :: xr a b := rfl
theorem xr_zero : ∀ l : List UInt8, xr (List.replicate l.length 0) l = l
  | [] => rfl
  | x :: l => by
    show (0 ^^^ x) :: xr (List.replicate l.length 0) l = _
    rw [xr_zero l, UInt8.zero_xor]
theorem xr_four : ∀ a b c d : List UInt8, xr (xr a b) (xr c d) = xr (xr a c) (xr b d)
  | [], _, _, _ => by simp [xr]
  | _ :: _, [], _, _ => by simp [xr]
  | _ :: _, _ :: _, [], _ => by simp [xr]
  | _ :: _, _ :: _, _ :: _, [] => by simp [xr]
  | x :: a, y :: b, z :: c, t :: d => by
    rw [xr_cons, xr_cons, xr_cons, xr_cons, xr_cons, xr_cons, xr_four a b c d]
    congr 1
    rw [UInt8.xor_assoc, UInt8.xor_assoc, ← UInt8.xor_assoc y, UInt8.xor_comm y z, UInt8.xor_assoc]
/-- The symbols of a unit. -/
def sy16 : List UInt8 → List Nat
  | u :: v :: r => (256 * u.toNat + v.toNat) :: sy16 r
  | _ => []
def sy (m : Nat) (l : List UInt8) : List Nat := if m = 16 then sy16 l else l.map (·.toNat)
/-- The bytes of a symbol. -/
def byt (m p : Nat) : List UInt8 := if m = 16 then [UInt8.ofNat (p / 256), UInt8.ofNat p] else [UInt8.ofNat p]
/-- A unit, all of whose symbols are multiplied by c. -/
def sc (m c : Nat) (l : List UInt8) : List UInt8 := (sy m l).flatMap fun s => byt m (mul m s c)
def whl (m : Nat) (l : List UInt8) : Prop := l.length % (m / 8) = 0
theorem sc8_eq (c : Nat) (l : List UInt8) : sc 8 c l = l.map fun u => UInt8.ofNat (mul 8 u.toNat c) := by
  unfold sc sy byt
  rw [if_neg (by decide)]
  induction l with
  | nil => rfl
  | cons u l ih =>
    rw [List.map_cons, List.flatMap_cons, ih, if_neg (by decide)]
    rfl
theorem sc16_cons (c : Nat) (u v : UInt8) (l : List UInt8) : sc 16 c (u :: v :: l) = UInt8.ofNat (mul 16 (256 * u.toNat + v.toNat) c / 256) :: UInt8.ofNat (mul 16 (256 * u.toNat + v.toNat) c) :: sc 16 c l := rfl
/-- Going through a unit in pairs. -/
theorem pairs {P : List UInt8 → Prop} (nil : P []) (step : ∀ u v l, whl 16 l → P l → P (u :: v :: l)) : ∀ l, whl 16 l → P l
  | [], _ => nil
  | [_], h => by simp [whl] at h
  | u :: v :: l, h => by
    have h2 : whl 16 l := by
      unfold whl at h ⊢
      simp only [List.length_cons] at h
      omega
    exact step u v l h2 (pairs nil step l h2)
theorem whl8 (l : List UInt8) : whl 8 l := by unfold whl; omega
theorem whl_of {m : Nat} {a b : List UInt8} (h : a.length = b.length) (hw : whl m a) : whl m b := by unfold whl at *; rw [← h]; exact hw
theorem ofNat_xor (a b : Nat) : UInt8.ofNat (a ^^^ b) = UInt8.ofNat a ^^^ UInt8.ofNat b := by
  apply UInt8.toNat_inj.1
  rw [UInt8.toNat_xor, UInt8.toNat_ofNat', UInt8.toNat_ofNat', UInt8.toNat_ofNat', ← Nat.xor_mod_two_pow]
theorem div256_xor (a b : Nat) : (a ^^^ b) / 256 = (a / 256) ^^^ (b / 256) := Nat.xor_div_two_pow (n := 8)
theorem sym_xor (u v x y : UInt8) : 256 * (u ^^^ x).toNat + (v ^^^ y).toNat = (256 * u.toNat + v.toNat) ^^^ (256 * x.toNat + y.toNat) := by
  apply Nat.eq_of_testBit_eq
  intro i
  have h1 := fun (a b : UInt8) => Nat.testBit_two_pow_mul_add a.toNat (i := 8) b.toNat_lt i
  rw [Nat.testBit_xor]
  have e : (256 : Nat) = 2 ^ 8 := rfl
  rw [e, h1, h1, h1, UInt8.toNat_xor, UInt8.toNat_xor]
  split <;> rw [Nat.testBit_xor]
theorem sym_lt (u v : UInt8) : 256 * u.toNat + v.toNat < 2 ^ 16 := by
  have := u.toNat_lt
  have := v.toNat_lt
  omega
theorem sc_len {m : Nat} (hm : Fm m) (c : Nat) (l : List UInt8) (h : whl m l) : (sc m c l).length = l.length := by
  rcases hm with rfl | rfl
  · rw [sc8_eq, List.length_map]
  · revert h
    refine pairs (P := fun l => (sc 16 c l).length = l.length) rfl ?_ l
    intro u v l _ ih
    rw [sc16_cons, List.length_cons, List.length_cons, ih]
    rfl
theorem sc_xr {m : Nat} (hm : Fm m) (c : Nat) (a b : List UInt8) (h : whl m a) (hl : a.length = b.length) : sc m c (xr a b) = xr (sc m c a) (sc m c b) := by
  rcases hm with rfl | rfl
  · rw [sc8_eq, sc8_eq, sc8_eq]
    clear h
    induction a generalizing b with
    | nil => cases b with
      | nil => rfl
      | cons _ _ => simp at hl
    | cons x a ih => cases b with
      | nil => simp at hl
      | cons y b =>
        simp only [xr_cons, List.map_cons]
        rw [ih b (by simpa using hl), UInt8.toNat_xor, mulL, ofNat_xor]
  · revert b
    revert h
    refine pairs (P := fun a => ∀ b : List UInt8, a.length = b.length → sc 16 c (xr a b) = xr (sc 16 c a) (sc 16 c b)) ?_ ?_ a
    · intro b hb
      cases b with
      | nil => rfl
      | cons _ _ => simp at hb
    · intro u v l _ ih b hb
      match b, hb with
      | x :: y :: b, hb =>
        rw [xr_cons, xr_cons, sc16_cons, sc16_cons, sc16_cons, xr_cons, xr_cons, ih b (by simpa using hb), sym_xor, mulL, ofNat_xor, div256_xor, ofNat_xor]
      | [], hb => simp at hb
      | [_], hb => simp at hb
theorem sc_zero {m : Nat} (hm : Fm m) (c n : Nat) (h : whl m (List.replicate n 0)) : sc m c (List.replicate n 0) = List.replicate n 0 := by
  rcases hm with rfl | rfl
  · rw [sc8_eq, List.map_replicate]
    show List.replicate n (UInt8.ofNat (mul 8 0 c)) = _
    rw [mul_zeroL]
    rfl
  · have key : ∀ k : Nat, sc 16 c (List.replicate (2 * k) 0) = List.replicate (2 * k) 0 := fun k => by
      induction k with
      | zero => rfl
      | succ k ih =>
        rw [show 2 * (k + 1) = 2 * k + 1 + 1 by omega, List.replicate_succ, List.replicate_succ, sc16_cons, ih]
        show UInt8.ofNat (mul 16 0 c / 256) :: UInt8.ofNat (mul 16 0 c) :: _ = _
        rw [mul_zeroL]
        rfl
    unfold whl at h
    rw [List.length_replicate] at h
    have := key (n / 2)
    rwa [show 2 * (n / 2) = n by omega] at this
theorem byte_of (p : Nat) (h : p < 65536) : 256 * (UInt8.ofNat (p / 256)).toNat + (UInt8.ofNat p).toNat = p := by
  rw [UInt8.toNat_ofNat', UInt8.toNat_ofNat']
  omega
/-- A linear combination of units of n bytes. -/
def cmbF (m : Nat) (acc : List UInt8) : List (Nat × List UInt8) → List UInt8
  | [] => acc
  | (c, u) :: r => cmbF m (xr acc (sc m c u)) r
theorem cmb_len {m : Nat} (hm : Fm m) : ∀ (l : List (Nat × List UInt8)) (acc : List UInt8), whl m acc → (∀ p ∈ l, p.2.length = acc.length) → (cmbF m acc l).length = acc.length
  | [], _, _, _ => rfl
  | (c, u) :: r, acc, hw, h => by
    have h1 : u.length = acc.length := h (c, u) (by simp)
    have h2 : (sc m c u).length = acc.length := by rw [sc_len hm c u (whl_of h1.symm hw), h1]
    have h3 : (xr acc (sc m c u)).length = acc.length := xr_len _ _ h2.symm
    rw [cmbF, cmb_len hm r _ (whl_of h3.symm hw) (fun p hp => by rw [h3]; exact h p (by simp [hp])), h3]
end

section
open Go.RowKit
set_option linter.unusedVariables false
theorem i64_xor_nat (a b : Nat) (ha : a < 4294967296) (hb : b < 4294967296) : bits .xor .i64 (a : Int) (b : Int) = ((a ^^^ b : Nat) : Int) := by
  have hx : a ^^^ b < 2 ^ 32 := Nat.xor_lt_two_pow (by omega) (by omega)
  show IntKind.i64.wrap ((BitVec.ofInt 64 (a : Int) ^^^ BitVec.ofInt 64 (b : Int)).toNat : Int) = _
  rw [BitVec.toNat_xor, ofInt_u64 a (by omega), ofInt_u64 b (by omega), IntWalk.i64_in _ (by omega)]
theorem i64_and1_nat (b : Nat) (hb : b < 9223372036854775808) : bits .and .i64 (b : Int) 1 = ((b % 2 : Nat) : Int) := by
  show IntKind.i64.wrap ((BitVec.ofInt 64 (b : Int) &&& BitVec.ofInt 64 1).toNat : Int) = _
  rw [BitVec.toNat_and, ofInt_u64 b (by omega), show (BitVec.ofInt 64 1).toNat = 1 by decide, Nat.and_one_is_mod, IntWalk.i64_in _ (by omega)]
theorem i64_or_nat (a b : Nat) (ha : a < 4294967296) (hb : b < 4294967296) : bits .or .i64 (a : Int) (b : Int) = ((a ||| b : Nat) : Int) := by
  have hx : a ||| b < 2 ^ 32 := Nat.or_lt_two_pow (by omega) (by omega)
  show IntKind.i64.wrap ((BitVec.ofInt 64 (a : Int) ||| BitVec.ofInt 64 (b : Int)).toNat : Int) = _
  rw [BitVec.toNat_or, ofInt_u64 a (by omega), ofInt_u64 b (by omega), IntWalk.i64_in _ (by omega)]
section
variable (t : TypeId)
theorem nxor (a b : Nat) (ha : a < 4294967296) (hb : b < 4294967296) : binOp .xor t (.int .i64 (a : Int)) (.int .i64 (b : Int)) = pure (.int .i64 ((a ^^^ b : Nat) : Int)) := by
  rw [binOp_xor]
  show pure (Value.int .i64 (bits .xor .i64 (a : Int) (b : Int))) = _
  rw [i64_xor_nat a b ha hb]
theorem nor (a b : Nat) (ha : a < 4294967296) (hb : b < 4294967296) : binOp .or t (.int .i64 (a : Int)) (.int .i64 (b : Int)) = pure (.int .i64 ((a ||| b : Nat) : Int)) := by
  rw [binOp_or]
  show pure (Value.int .i64 (bits .or .i64 (a : Int) (b : Int))) = _
  rw [i64_or_nat a b ha hb]
theorem nand1 (b : Nat) (hb : b < 9223372036854775808) : binOp .and t (.int .i64 (b : Int)) (.int .i64 1) = pure (.int .i64 ((b % 2 : Nat) : Int)) := by
  rw [binOp_and]
  show pure (Value.int .i64 (bits .and .i64 (b : Int) 1)) = _
  rw [i64_and1_nat b hb]
theorem nmul (a b : Nat) (h : a * b < 9223372036854775808) : binOp .mul t (.int .i64 (a : Int)) (.int .i64 (b : Int)) = pure (.int .i64 ((a * b : Nat) : Int)) := by
  rw [binOp_mul]
  simp only [Op.intArith]
  rw [show (a : Int) * (b : Int) = ((a * b : Nat) : Int) by push_cast; rfl, IntWalk.i64_in _ (by omega)]
theorem nadd (a b : Nat) (h : a + b < 9223372036854775808) : binOp .add t (.int .i64 (a : Int)) (.int .i64 (b : Int)) = pure (.int .i64 ((a + b : Nat) : Int)) := by
  rw [binOp_add]
  simp only [Op.intArith]
  rw [IntWalk.i64_in _ (by omega)]
  rfl
theorem nsub (a b : Nat) (h : b ≤ a) (ha : a < 9223372036854775808) : binOp .sub t (.int .i64 (a : Int)) (.int .i64 (b : Int)) = pure (.int .i64 ((a - b : Nat) : Int)) := by
  rw [binOp_sub]
  simp only [Op.intArith]
  rw [IntWalk.i64_in _ (by omega), Int.ofNat_sub h]
theorem nshl {k : IntKind} (a c : Nat) (hc : c ≤ 20) (h : a < 4294967296) : binOp .shl t (.int .i64 (a : Int)) (.int k (c : Int)) = pure (.int .i64 ((a * 2 ^ c : Nat) : Int)) := by
  have hp : 2 ^ c ≤ 1048576 := Nat.pow_le_pow_right (n := 2) (by decide) hc
  have h2 : a * 2 ^ c ≤ 4294967296 * 1048576 := Nat.mul_le_mul (by omega) hp
  rw [binOp_shl]
  simp only [Op.shift]
  rw [if_neg (by omega)]
  have hmin : min ((c : Int)).toNat IntKind.i64.bits = c := by simp [IntKind.bits]; omega
  rw [hmin, show (a : Int) * 2 ^ c = ((a * 2 ^ c : Nat) : Int) by push_cast; rfl, IntWalk.i64_in _ (by omega)]
theorem nshr {k : IntKind} (a c : Nat) (hc : c ≤ 20) (h : a < 9223372036854775808) : binOp .shr t (.int .i64 (a : Int)) (.int k (c : Int)) = pure (.int .i64 ((a / 2 ^ c : Nat) : Int)) := by
  rw [binOp_shr]
  simp only [Op.shift]
  rw [if_neg (by omega)]
  have hmin : min ((c : Int)).toNat IntKind.i64.bits = c := by simp [IntKind.bits]; omega
  rw [hmin, Int.fdiv_eq_ediv_of_nonneg _ (by have : (0 : Int) < 2 ^ c := Int.pow_pos (by omega); omega)]
  simp
theorem nquo (a c : Nat) (hc : 0 < c) (h : a < 9223372036854775808) : binOp .quo t (.int .i64 (a : Int)) (.int .i64 (c : Int)) = pure (.int .i64 ((a / c : Nat) : Int)) := by
  rw [binOp_quo]
  have hle : a / c ≤ a := Nat.div_le_self a c
  have e : IntKind.i64.wrap ((a : Int).tdiv (c : Int)) = ((a / c : Nat) : Int) := by
    rw [Int.tdiv_eq_ediv_of_nonneg (by omega), show (a : Int) / (c : Int) = ((a / c : Nat) : Int) from rfl]
    generalize a / c = x at *
    exact IntWalk.i64_in _ (by omega)
  simp only [Op.intDiv]
  rw [if_neg (by simp; omega), e]
theorem nrem (a c : Nat) (hc : 0 < c) : binOp .rem t (.int .i64 (a : Int)) (.int .i64 (c : Int)) = pure (.int .i64 ((a % c : Nat) : Int)) := by
  rw [binOp_rem]
  have e : (a : Int).tmod (c : Int) = ((a % c : Nat) : Int) := by
    rw [Int.tmod_eq_emod_of_nonneg (by omega)]; rfl
  simp only [Op.intDiv]
  rw [if_neg (by simp; omega), e]
theorem nremz (n : Int) (c : Nat) (hc : 0 < c) : binOp .rem t (.int .i64 n) (.int .i64 (c : Int)) = pure (.int .i64 (n.tmod (c : Int))) := by
  rw [binOp_rem]
  simp only [Op.intDiv]
  rw [if_neg (by simp; omega)]
end
end

section
open Go.RowKit Go.Shelf
set_option linter.unusedVariables false
/-- The string of a list of bytes. -/
def str (l : List UInt8) : ByteArray := ⟨l.toArray⟩
theorem str_size (l : List UInt8) : (str l).size = l.length := by unfold str; simp [ByteArray.size]
theorem list_str (s : ByteArray) : str s.data.toList = s := by unfold str; apply ByteArray.ext; simp
theorem row_byte {w : World} {g : Nat} {e : TypeId} {l : List UInt8} {sp : List Value} (h : Blk w g e (l.map bv ++ sp)) (i : Nat) (hi : i < l.length) : w.cell? ⟨g, i, none⟩ = some (bv l[i]) := by
  rw [h.cell, List.getElem?_append_left (by rw [List.length_map]; exact hi), List.getElem?_map, List.getElem?_eq_getElem hi]
  rfl
theorem xor_bv (x y : UInt8) : bits .xor .u8 (x.toNat : Int) (y.toNat : Int) = ((x ^^^ y).toNat : Int) := by
  have h := u8_xor_nat x.toNat y.toNat x.toNat_lt y.toNat_lt
  rw [UInt8.toNat_xor, ← h]
/-- A row of bytes at a block. -/
structure BRow (w : World) (g : Nat) (l : List UInt8) : Prop where
  lt : g < w.heap.size
  cell : ∀ i (h : i < l.length), w.cell? ⟨g, i, none⟩ = some (bv l[i])
  free : ∀ i, i < l.length → w.frozen? ⟨g, i, none⟩ = false
theorem BRow.kept {w w' : World} {g B : Nat} {l : List UInt8} (h : BRow w g l) (hb : Below B w w') (hg : g < B) : BRow w' g l :=
  ⟨Nat.lt_of_lt_of_le h.lt hb.size, fun i hi => (hb.cell (p := ⟨g, i, none⟩) hg).trans (h.cell i hi), fun i hi => (hb.frozen (p := ⟨g, i, none⟩) hg).trans (h.free i hi)⟩
theorem BRow.store {w : World} {g : Nat} {l : List UInt8} (h : BRow w g l) (q : Nat) (hq : q < l.length) (u : UInt8) : BRow (w.setCell ⟨g, q, none⟩ (bv u)) g (l.set q u) := by
  refine ⟨by simpa [World.setCell] using h.lt, fun i hi => ?_, fun i hi => ?_⟩
  · rw [List.length_set] at hi
    by_cases e : i = q
    · subst e
      rw [World.cell?_setCell_same' _ _ _ (by rw [h.cell i hq]; rfl), List.getElem_set_self]
    · rw [World.cell?_setCell_other _ _ _ _ (by intro hh; injection hh with _ hh; exact e hh.symm), h.cell i hi, List.getElem_set_ne (by omega)]
  · rw [List.length_set] at hi
    rw [World.frozen?_setCell]
    exact h.free i hi
theorem BRow.sl {w : World} {g : Nat} {l : List UInt8} (h : BRow w g l) : Sl w w.heap.size (some ⟨g, 0, none⟩) 1 l.length (l.map bv) :=
  ⟨by simp, fun _ => ⟨g, 0, rfl, h.lt, fun j u hj => by
    obtain ⟨h1, h2⟩ := List.getElem?_eq_some_iff.1 hj
    rw [List.length_map] at h1
    rw [Nat.zero_add, h.cell j h1, ← h2, List.getElem_map]⟩⟩
theorem Below.heap {B : Nat} {w w' : World} (h : Below B w w') (k : Nat) (hk : k < B) : w'.heap[k]? = w.heap[k]? := h.block k hk
theorem cell_one (W : World) (t : TypeId) (v : Value) : (W.alloc (.cells #[v] t)).cell? ⟨W.heap.size, 0, none⟩ = some v := by
  have h := heap_alloc_new W (.cells #[v] t)
  simp only [World.cell?, h]
  rfl
theorem xor_c (t : TypeId) (u e : UInt8) : binOp .xor t (bv u) (bv e) = pure (bv (u ^^^ e)) := by
  rw [binOp_xor]
  show pure (Value.int .u8 (bits .xor .u8 (u.toNat : Int) (e.toNat : Int))) = _
  rw [xor_bv]
theorem take_pre {α : Type} (l : List α) (j : Nat) (h : j < l.length) : l.take j ++ [l[j]] <+: l := by
  rw [← take_snoc l j h]; exact List.take_prefix _ _
theorem lt_of_block {w w' : World} {k : Nat} (h : k < w.heap.size) (e : w'.heap[k]? = w.heap[k]?) : k < w'.heap.size := by
  rw [Array.getElem?_eq_getElem h] at e
  exact (Array.getElem?_eq_some_iff.1 e).1
end

section
open Go.RowKit
set_option linter.unusedVariables false
/-- The table of the fields' polynomials, as it is laid. -/
def P17 : List Int := [0, 0, 0, 0, 0, 0, 0, 0, 285, 0, 0, 0, 0, 0, 0, 0, 69643]
structure Tabs (w : World) : Prop where
  lo : 0 < w.heap.size
  tab : ∀ j, j < 17 → w.cell? ⟨0, j, none⟩ = some (.int .i64 (P17.getD j 0))
theorem Tabs.keep {w w' : World} (h : Tabs w) (hb : Below w.heap.size w w') : Tabs w' :=
  ⟨Nat.lt_of_lt_of_le h.lo hb.size, fun j hj => (hb.cell (p := ⟨_, j, none⟩) h.lo).trans (h.tab j hj)⟩
theorem Tabs.at_m {w : World} (h : Tabs w) {m : Nat} (hm : Fm m) : w.cell? ⟨0, m, none⟩ = some (.int .i64 (pol m : Nat)) := by
  rcases hm with rfl | rfl
  · exact h.tab 8 (by decide)
  · exact h.tab 16 (by decide)
/-- Is it an element? -/
def vd (m a : Int) : Bool := decide ((m = 8 ∨ m = 16) ∧ 0 ≤ a ∧ a < 2 ^ m.toNat)
theorem vd_spec {m a : Int} (h : vd m a = true) : ∃ (k x : Nat), m = (k : Int) ∧ a = (x : Int) ∧ Fm k ∧ x < 2 ^ k := by
  unfold vd at h
  obtain ⟨h1, h2, h3⟩ := of_decide_eq_true h
  refine ⟨m.toNat, a.toNat, by omega, by omega, by unfold Fm; omega, ?_⟩
  rcases h1 with rfl | rfl
  · have h3 : a < 256 := h3
    show a.toNat < 256
    omega
  · have h3 : a < 65536 := h3
    show a.toNat < 65536
    omega
theorem vd_true {m a : Nat} (hm : Fm m) (ha : a < 2 ^ m) : vd (m : Int) (a : Int) = true := by
  unfold vd
  apply decide_eq_true
  rw [Int.toNat_natCast]
  refine ⟨by unfold Fm at hm; omega, by omega, ?_⟩
  exact_mod_cast ha
set_option maxHeartbeats 400000 in
theorem valid_any (m a : Int) (w : World) (hT : Tabs w) :
    Calls Tryd.prog 80 #[.int .i64 m, .int .i64 a] w fun e w' => e = .returned (.bool (vd m a)) ∧ w = w' := by
  by_cases h8 : m = 8
  · subst h8
    have hc := hT.tab 8 (by decide)
    have HT := hideIt hT
    have hv : vd 8 a = decide (0 ≤ a ∧ a < 256) := by
      unfold vd
      apply decide_eq_decide.2
      exact ⟨fun h => ⟨h.2.1, h.2.2⟩, fun h => ⟨by omega, h.1, h.2⟩⟩
    rw [hv]
    clear hv hT
    change w.cell? ⟨_, 8, none⟩ = some (.int .i64 285) at hc
    by_cases h0 : 0 ≤ a
    · by_cases h1 : a < 256
      · rw [decide_eq_true ⟨h0, h1⟩]
        go_enter Tryd.func80, Tryd.ntmps80
        go_wp2_with fail
        go_ret
        exact ⟨rfl, rfl⟩
      · rw [decide_eq_false (by omega)]
        go_enter Tryd.func80, Tryd.ntmps80
        go_wp2_with fail
        go_ret
        exact ⟨rfl, rfl⟩
    · rw [decide_eq_false (by omega)]
      go_enter Tryd.func80, Tryd.ntmps80
      go_wp2_with fail
      go_ret
      exact ⟨rfl, rfl⟩
  by_cases h16 : m = 16
  · subst h16
    have hc := hT.tab 16 (by decide)
    have HT := hideIt hT
    have hv : vd 16 a = decide (0 ≤ a ∧ a < 65536) := by
      unfold vd
      apply decide_eq_decide.2
      exact ⟨fun h => ⟨h.2.1, h.2.2⟩, fun h => ⟨by omega, h.1, h.2⟩⟩
    rw [hv]
    clear hv hT h8
    change w.cell? ⟨_, 16, none⟩ = some (.int .i64 69643) at hc
    by_cases h0 : 0 ≤ a
    · by_cases h1 : a < 65536
      · rw [decide_eq_true ⟨h0, h1⟩]
        go_enter Tryd.func80, Tryd.ntmps80
        go_wp2_with fail
        go_ret
        exact ⟨rfl, rfl⟩
      · rw [decide_eq_false (by omega)]
        go_enter Tryd.func80, Tryd.ntmps80
        go_wp2_with fail
        go_ret
        exact ⟨rfl, rfl⟩
    · rw [decide_eq_false (by omega)]
      go_enter Tryd.func80, Tryd.ntmps80
      go_wp2_with fail
      go_ret
      exact ⟨rfl, rfl⟩
  have hv : vd m a = false := by
    unfold vd
    apply decide_eq_false
    omega
  rw [hv]
  clear hv
  by_cases h0 : 0 ≤ m
  · by_cases h17 : m < 17
    · obtain ⟨k, rfl⟩ : ∃ k : Nat, m = (k : Int) := ⟨m.toNat, by omega⟩
      have hc := hT.tab k (by omega)
      have hz : P17.getD k 0 = 0 := by
        have : ∀ k : Fin 17, k.val ≠ 8 → k.val ≠ 16 → P17.getD k.val 0 = 0 := by decide
        exact this ⟨k, by omega⟩ (by show k ≠ 8; omega) (by show k ≠ 16; omega)
      rw [hz] at hc
      clear hT hz
      go_enter Tryd.func80, Tryd.ntmps80
      go_wp2_with fail
      go_ret
      exact ⟨rfl, rfl⟩
    · clear hT
      go_enter Tryd.func80, Tryd.ntmps80
      go_wp2_with fail
      go_ret
      exact ⟨rfl, rfl⟩
  · clear hT
    go_enter Tryd.func80, Tryd.ntmps80
    go_wp2_with fail
    go_ret
    exact ⟨rfl, rfl⟩
end

section
open Go.RowKit
set_option linter.unusedVariables false
theorem bit_le (a b : Nat) : a * (b % 2) ≤ a := by
  rcases Nat.mod_two_eq_zero_or_one b with h | h <;> rw [h]
  · omega
  · omega
theorem nshl1 (t : TypeId) (a : Nat) (h : a < 4294967296) : binOp .shl t (.int .i64 (a : Int)) (.int .u64 1) = pure (.int .i64 ((2 * a : Nat) : Int)) := by
  have e : a * 2 ^ 1 = 2 * a := by omega
  have := nshl t (k := .u64) a 1 (by omega) h
  rw [e] at this
  exact this
theorem nshr1 (t : TypeId) (a : Nat) (h : a < 9223372036854775808) : binOp .shr t (.int .i64 (a : Int)) (.int .u64 1) = pure (.int .i64 ((a / 2 : Nat) : Int)) :=
  nshr t (k := .u64) a 1 (by omega) h
set_option maxHeartbeats 400000 in
theorem product_any (m a b : Nat) (hm : Fm m) (ha : a < 2 ^ m) (hb : b < 4294967296) (w : World) (hT : Tabs w) :
    Calls Tryd.prog 84 #[.int .i64 (m : Int), .int .i64 (a : Int), .int .i64 (b : Int)] w fun e w' => e = .returned (.int .i64 ((ml m a b : Nat) : Int)) ∧ ∃ n, w' = w.drewN n := by
  have hcell := hT.at_m hm
  have hm0 : (0 : Int) ≤ (m : Int) := by omega
  have hm17 : (m : Int) < 17 := by have := fm_le hm; omega
  have HM := hideIt hm
  have HA := hideIt ha
  have HB := hideIt hb
  obtain ⟨z, hz⟩ : ∃ z, z = ml m a b := ⟨_, rfl⟩
  rw [← hz]
  have HZ := hideIt hz
  have hpl : pol m ≤ 69643 := by unfold pol; split <;> omega
  obtain ⟨p, hp⟩ : ∃ p, p = pol m := ⟨_, rfl⟩
  rw [← hp] at hcell hpl
  have HP := hideIt hp
  have HPL := hideIt hpl
  clear hT hm ha hb hz hp hpl
  go_enter Tryd.func84, Tryd.ntmps84
  go_wp2
  go_loopg [1, 2, 7] b (fun g s1 s2 s7 wr => ∃ (x y s n : Nat), y = g ∧ s1 = .int .i64 (x : Int) ∧ s2 = .int .i64 (y : Int) ∧ s7 = .int .i64 (s : Int) ∧ wr = w.drewN n ∧ Aside (x < 2 ^ m ∧ s < 2 ^ m ∧ y ≤ b ∧ s ^^^ ml m x y = z))
  case atStart => exact ⟨a, b, 0, 0, rfl, rfl, rfl, rfl, rfl, HA.out, Nat.two_pow_pos m, Nat.le_refl _, by rw [zx, HZ.out]⟩
  case round =>
    obtain ⟨x, y, s, n, rfl, rfl, rfl, rfl, rfl, HQ⟩ := hrel
    by_cases hy : 0 < y
    · obtain ⟨hx, hs, hyb, he⟩ := HQ.out
      have hbig := fm_big HM.out
      have hb := HB.out
      have hand := nand1 3 y (by omega)
      have hle := bit_le x y
      have hmul := nmul 3 x (y % 2) (by omega)
      have hxor := nxor 3 s (x * (y % 2)) (by omega) (by omega)
      have hshl := nshl1 3 x (by omega)
      have hshr := nshr 3 (k := .i64) (2 * x) m (by have := fm_le HM.out; omega) (by omega)
      have hsm : 2 * x / 2 ^ m ≤ 1 := by
        have : 2 * x / 2 ^ m < 2 := by rw [Nat.div_lt_iff_lt_mul (Nat.two_pow_pos m)]; omega
        omega
      have hpl := HPL.out
      have hpm : p * (2 * x / 2 ^ m) ≤ p * 1 := Nat.mul_le_mul_left p hsm
      have hmul2 := nmul 3 p (2 * x / 2 ^ m) (by omega)
      have hxor2 := nxor 3 (2 * x) (p * (2 * x / 2 ^ m)) (by omega) (by omega)
      have hstp := xt_prog HM.out hx
      rw [← HP.out] at hstp
      rw [hstp] at hxor2
      have hhalf := nshr1 3 y (by omega)
      have HN : Hid (xt m x < 2 ^ m ∧ (s ^^^ (x * (y % 2))) < 2 ^ m ∧ y / 2 ≤ b ∧ (s ^^^ (x * (y % 2))) ^^^ ml m (xt m x) (y / 2) = z ∧ y / 2 < y) :=
        hideIt ⟨xt_lt HM.out hx, step_lt HM.out y hs hx, by omega, by rw [xa, ← ml_step, he], by omega⟩
      have hyi : (0 : Int) < (y : Int) := by omega
      clear hx hs hyb he hbig hb hle hsm hpl hpm hstp HQ
      generalize xt m x = x3 at *
      generalize s ^^^ (x * (y % 2)) = s2 at *
      generalize p * (2 * x / 2 ^ m) = v3 at *
      generalize 2 * x / 2 ^ m = v2 at *
      generalize x * (y % 2) = v1 at *
      generalize y % 2 = v0 at *
      generalize 2 * x = x2 at *
      generalize y / 2 = y2 at *
      obtain ⟨W, hW⟩ : ∃ W, W = w.drewN n := ⟨_, rfl⟩
      go_wp2
      go_quiet (fail)
      go_wp2
      go_roundg y2
      case measure => exact HN.out.2.2.2.2
      case rel => exact ⟨x3, y2, s2, _, rfl, rfl, rfl, rfl, rfl, HN.out.1, HN.out.2.1, HN.out.2.2.1, HN.out.2.2.2.1⟩
    · obtain rfl : y = 0 := by omega
      have HE : Hid (s = z) := hideIt (by rw [← HQ.out.2.2.2, ml_zero, xz])
      clear HQ
      go_wp2
      go_ret
      exact ⟨by rw [HE.out]; rfl, _, rfl⟩
theorem inc_c (t : TypeId) (k : Nat) (h : k ≤ 200000) : binOp .add t (.int .i64 (k : Int)) (.int .i64 1) = pure (.int .i64 ((k + 1 : Nat) : Int)) := nadd t k 1 (by omega)
theorem Tabs.drewN {w : World} (h : Tabs w) (n : Nat) : Tabs (w.drewN n) := h.keep (below_drewN (Below.refl _ _) n)
theorem prod_any (m a b : Nat) (hm : Fm m) (ha : a < 2 ^ m) (hb : b < 2 ^ m) (w : World) (hT : Tabs w) (n : Nat) :
    Calls Tryd.prog 84 #[.int .i64 (m : Int), .int .i64 (a : Int), .int .i64 (b : Int)] (w.drewN n) fun e w' => e = .returned (.int .i64 ((mul m a b : Nat) : Int)) ∧ ∃ k, w' = w.drewN k := by
  rw [← ml_mul m a b hb]
  refine (product_any m a b hm ha (by have := fm_big hm; omega) (w.drewN n) (hT.drewN n)).mono ?_
  rintro e w' ⟨rfl, k, rfl⟩
  exact ⟨rfl, n + k, World.drewN_drewN _ _ _⟩
theorem neqT (t : TypeId) {a b : Nat} (h : a ≠ b) : binOp .neq t (.int .i64 (a : Int)) (.int .i64 (b : Int)) = pure (.bool true) := by
  rw [binOp_neq]
  have h2 : ((a : Int) != (b : Int)) = true := by rw [bne_iff_ne]; omega
  rw [h2]
theorem neqF (t : TypeId) (a : Nat) : binOp .neq t (.int .i64 (a : Int)) (.int .i64 (a : Int)) = pure (.bool false) := by
  rw [binOp_neq]
  have h2 : ((a : Int) != (a : Int)) = false := by simp
  rw [h2]
theorem nshl_one (t : TypeId) (m : Nat) (hm : m ≤ 16) : binOp .shl t (.int .i64 1) (.int .i64 (m : Int)) = pure (.int .i64 ((2 ^ m : Nat) : Int)) := by
  have := nshl t (k := .i64) 1 m (by omega) (by omega)
  rw [Nat.one_mul] at this
  exact this
theorem nsub_one (t : TypeId) (a : Nat) (h : 1 ≤ a) (ha : a < 9223372036854775808) : binOp .sub t (.int .i64 (a : Int)) (.int .i64 1) = pure (.int .i64 ((a - 1 : Nat) : Int)) := nsub t a 1 h ha
theorem odd_c (t : TypeId) (y : Nat) (hy : y < 9223372036854775808) (h : y % 2 = 1) : binOp .and t (.int .i64 (y : Int)) (.int .i64 1) = pure (.int .i64 1) := by rw [nand1 t y hy, h]; rfl
theorem even_c (t : TypeId) (y : Nat) (hy : y < 9223372036854775808) (h : ¬ y % 2 = 1) : binOp .and t (.int .i64 (y : Int)) (.int .i64 1) = pure (.int .i64 0) := by rw [nand1 t y hy, show y % 2 = 0 by omega]; rfl
/-- The power's loop, from any exponent that is not negative. -/
def powLoop (m p a y r : Nat) : Prop := p < 2 ^ m ∧ a < 2 ^ m ∧ mul m p (pw m a y) = r
theorem powLoop_next {m p a y r : Nat} (hm : Fm m) (h : powLoop m p a y r) : powLoop m (if y % 2 = 1 then mul m p a else p) (mul m a a) (y / 2) r := by
  obtain ⟨h1, h2, h3⟩ := h
  refine ⟨by split; exact mul_lt hm a h1; exact h1, mul_lt hm a h2, ?_⟩
  rw [fp_step hm h1 h2, h3]
set_option maxHeartbeats 1000000 in
theorem power_any (m a : Nat) (n : Int) (hm : Fm m) (ha : a < 2 ^ m) (h64 : -9223372036854775808 ≤ n ∧ n ≤ 9223372036854775807) (w : World) (hT : Tabs w) (n0 : Nat) :
    Calls Tryd.prog 106 #[.int .i64 (m : Int), .int .i64 (a : Int), .int .i64 n] (w.drewN n0) fun e w' => e = .returned (.int .i64 ((pwZ m a n : Nat) : Int)) ∧ ∃ k, w' = w.drewN k := by
  have HT := hideIt hT
  have HM := hideIt hm
  have HA := hideIt ha
  obtain ⟨q, hq⟩ : ∃ q, q = qm m := ⟨_, rfl⟩
  obtain ⟨N, hN⟩ : ∃ N, N = ex m n := ⟨_, rfl⟩
  have hNb : N < 9223372036854775808 := by
    rw [hN]
    unfold ex
    split
    · rw [tmod_neg n _ (by assumption)]
      rcases qm_lit hm with ⟨rfl, h, _⟩ | ⟨rfl, h, _⟩ <;> rw [h] <;> omega
    · omega
  have hr : powLoop m 1 a N (pwZ m a n) := ⟨fm_one hm, ha, by unfold pwZ; rw [← hN, mul_oneL hm (pw_lt hm a _)]⟩
  have hshl := nshl_one 3 m (fm_le hm)
  have hsub := nsub_one 3 (2 ^ m) (by have := fm_one hm; omega) (by have := fm_big hm; omega)
  have hq2 : 2 ^ m - 1 = q := by rw [hq]; rfl
  rw [hq2] at hsub
  have hqp : 0 < q ∧ q < 65536 := by rw [hq]; rcases qm_lit hm with ⟨rfl, h, _⟩ | ⟨rfl, h, _⟩ <;> rw [h] <;> omega
  have hrem := nremz 3 n q hqp.1
  have hadd : n < 0 → binOp .add 3 (.int .i64 (n.tmod (q : Int))) (.int .i64 (q : Int)) = pure (.int .i64 (N : Int)) := fun hneg => by
    rw [binOp_add]
    simp only [Op.intArith]
    have e : n.tmod (q : Int) + (q : Int) = (N : Int) := by
      rw [hN]
      unfold ex
      rw [if_pos hneg, ← hq, tmod_neg n _ hneg]
      have := Nat.mod_lt (-n).toNat hqp.1
      omega
    rw [e, IntWalk.i64_in _ (by omega)]
  have hpos : ¬ n < 0 → n = (N : Int) := fun hneg => by
    rw [hN]; unfold ex; rw [if_neg hneg]; omega
  have HNB := hideIt hNb
  have HR := hideIt hr
  generalize pwZ m a n = r at *
  clear hT hm ha hq hN hNb hr hq2 hqp
  generalize hpw : 2 ^ m = P at hshl hsub
  clear hpw
  go_enter Tryd.func106, Tryd.ntmps106
  by_cases hneg : n < 0
  · have hadd := hadd hneg
    clear hpos
    generalize n.tmod (q : Int) = nq at *
    go_wp2
    go_quiet (fail)
    go_wp2
    go_loopg [1, 2, 7] N (fun g s1 s2 s7 wr => ∃ (x y s k : Nat), y = g ∧ s1 = .int .i64 (x : Int) ∧ s2 = .int .i64 (y : Int) ∧ s7 = .int .i64 (s : Int) ∧ wr = w.drewN k ∧ Aside (y ≤ N ∧ powLoop m s x y r))
    case atStart => exact ⟨a, N, 1, _, rfl, rfl, rfl, rfl, World.drewN_drewN _ _ _, Nat.le_refl _, HR.out⟩
    case round =>
      obtain ⟨x, y, s, k, rfl, rfl, rfl, rfl, rfl, HQ⟩ := hrel
      by_cases hy : 0 < y
      · have hyi : (0 : Int) < (y : Int) := by omega
        have hyN := HQ.out.1
        have hNB := HNB.out
        have hx := HQ.out.2.2.1
        have hhalf := nshr1 3 y (by omega)
        have HSQ := hideIt (fun n2 => prod_any m x x HM.out hx hx w HT.out n2)
        have HNX := hideIt (powLoop_next HM.out HQ.out.2)
        have HLT := hideIt (show y / 2 ≤ N ∧ y / 2 < y by omega)
        by_cases ho : y % 2 = 1
        · have hand := odd_c 3 y (by omega) ho
          have HP1 := hideIt (fun n2 => prod_any m s x HM.out HQ.out.2.1 hx w HT.out n2)
          have HNX := hideIt (by have := HNX.out; rw [if_pos ho] at this; exact this)
          clear hyN hNB hx HQ ho
          generalize mul m x x = x2 at *
          generalize mul m s x = s2 at *
          generalize y / 2 = y2 at *
          go_wp2_with (first
            | (go_at_call 84; refine (HP1.out _).mono ?_; rintro e w' ⟨rfl, n2, rfl⟩; clear HP1)
            | (go_at_call 84; refine (HSQ.out _).mono ?_; rintro e w' ⟨rfl, n3, rfl⟩; clear HSQ))
          go_roundg y2
          case measure => exact HLT.out.2
          case rel => exact ⟨x2, y2, s2, _, rfl, rfl, rfl, rfl, rfl, HLT.out.1, HNX.out⟩
        · have hand := even_c 3 y (by omega) ho
          have HNX := hideIt (by have := HNX.out; rw [if_neg ho] at this; exact this)
          clear hyN hNB hx HQ ho
          generalize mul m x x = x2 at *
          generalize y / 2 = y2 at *
          go_wp2_with (go_at_call 84; refine (HSQ.out _).mono ?_; rintro e w' ⟨rfl, n3, rfl⟩; clear HSQ)
          go_roundg y2
          case measure => exact HLT.out.2
          case rel => exact ⟨x2, y2, s, _, rfl, rfl, rfl, rfl, rfl, HLT.out.1, HNX.out⟩
      · obtain rfl : y = 0 := by omega
        have HE : Hid (s = r) := hideIt (by have h := HQ.out.2.2.2; rw [show pw m x 0 = 1 from rfl, mul_oneR HM.out] at h; exact h)
        clear HQ
        go_wp2
        go_ret
        exact ⟨by rw [HE.out]; rfl, _, rfl⟩
  · obtain rfl := hpos hneg
    clear hpos hadd
    go_wp2
    go_loopg [1, 2, 7] N (fun g s1 s2 s7 wr => ∃ (x y s k : Nat), y = g ∧ s1 = .int .i64 (x : Int) ∧ s2 = .int .i64 (y : Int) ∧ s7 = .int .i64 (s : Int) ∧ wr = w.drewN k ∧ Aside (y ≤ N ∧ powLoop m s x y r))
    case atStart => exact ⟨a, N, 1, _, rfl, rfl, rfl, rfl, rfl, Nat.le_refl _, HR.out⟩
    case round =>
      obtain ⟨x, y, s, k, rfl, rfl, rfl, rfl, rfl, HQ⟩ := hrel
      by_cases hy : 0 < y
      · have hyi : (0 : Int) < (y : Int) := by omega
        have hyN := HQ.out.1
        have hNB := HNB.out
        have hx := HQ.out.2.2.1
        have hhalf := nshr1 3 y (by omega)
        have HSQ := hideIt (fun n2 => prod_any m x x HM.out hx hx w HT.out n2)
        have HNX := hideIt (powLoop_next HM.out HQ.out.2)
        have HLT := hideIt (show y / 2 ≤ N ∧ y / 2 < y by omega)
        by_cases ho : y % 2 = 1
        · have hand := odd_c 3 y (by omega) ho
          have HP1 := hideIt (fun n2 => prod_any m s x HM.out HQ.out.2.1 hx w HT.out n2)
          have HNX := hideIt (by have := HNX.out; rw [if_pos ho] at this; exact this)
          clear hyN hNB hx HQ ho
          generalize mul m x x = x2 at *
          generalize mul m s x = s2 at *
          generalize y / 2 = y2 at *
          go_wp2_with (first
            | (go_at_call 84; refine (HP1.out _).mono ?_; rintro e w' ⟨rfl, n2, rfl⟩; clear HP1)
            | (go_at_call 84; refine (HSQ.out _).mono ?_; rintro e w' ⟨rfl, n3, rfl⟩; clear HSQ))
          go_roundg y2
          case measure => exact HLT.out.2
          case rel => exact ⟨x2, y2, s2, _, rfl, rfl, rfl, rfl, rfl, HLT.out.1, HNX.out⟩
        · have hand := even_c 3 y (by omega) ho
          have HNX := hideIt (by have := HNX.out; rw [if_neg ho] at this; exact this)
          clear hyN hNB hx HQ ho
          generalize mul m x x = x2 at *
          generalize y / 2 = y2 at *
          go_wp2_with (go_at_call 84; refine (HSQ.out _).mono ?_; rintro e w' ⟨rfl, n3, rfl⟩; clear HSQ)
          go_roundg y2
          case measure => exact HLT.out.2
          case rel => exact ⟨x2, y2, s, _, rfl, rfl, rfl, rfl, rfl, HLT.out.1, HNX.out⟩
      · obtain rfl : y = 0 := by omega
        have HE : Hid (s = r) := hideIt (by have h := HQ.out.2.2.2; rw [show pw m x 0 = 1 from rfl, mul_oneR HM.out] at h; exact h)
        clear HQ
        go_wp2
        go_ret
        exact ⟨by rw [HE.out]; rfl, _, rfl⟩
end

section
open Go.RowKit
set_option linter.unusedVariables false
/-- Two results, a number and an error. -/
abbrev nerr (x : Nat) (e : Int) : Value := .tuple #[.int .i64 (x : Int), .int .i64 e]
def addR (m a b : Int) : Nat × Int := if vd m a = true ∧ vd m b = true then (a.toNat ^^^ b.toNat, 0) else (0, 1)
def mlR (m a b : Int) : Nat × Int := if vd m a = true ∧ vd m b = true then (mul m.toNat a.toNat b.toNat, 0) else (0, 1)
def powR (m a n : Int) : Nat × Int := if vd m a = true then (if a = 0 ∧ n < 0 then (0, 12) else (pwZ m.toNat a.toNat n, 0)) else (0, 1)
def invR (m a : Int) : Nat × Int := powR m a (-1)
def divR (m a b : Int) : Nat × Int := if vd m a = true then (if (invR m b).2 = 0 then (mul m.toNat a.toNat (invR m b).1, 0) else (0, (invR m b).2)) else (0, 1)
theorem valid_dr (m a : Int) (w : World) (hT : Tabs w) (n : Nat) : Calls Tryd.prog 80 #[.int .i64 m, .int .i64 a] (w.drewN n) fun e w' => e = .returned (.bool (vd m a)) ∧ w.drewN n = w' := valid_any m a _ (hT.drewN n)
set_option maxHeartbeats 400000 in
theorem add_any (m a b : Int) (w : World) (hT : Tabs w) (n : Nat) :
    Calls Tryd.prog 103 #[.int .i64 m, .int .i64 a, .int .i64 b] (w.drewN n) fun e w' => e = .returned (nerr (addR m a b).1 (addR m a b).2) ∧ ∃ k, w' = w.drewN k := by
  have HV1 := hideIt (valid_dr m a w hT n)
  have HV2 := hideIt (valid_dr m b w hT n)
  unfold addR nerr
  by_cases h1 : vd m a = true
  · by_cases h2 : vd m b = true
    · rw [if_pos ⟨h1, h2⟩]
      obtain ⟨k, x, rfl, rfl, hk, hx⟩ := vd_spec h1
      obtain ⟨k2, y, e, rfl, _, hy⟩ := vd_spec h2
      obtain rfl : k = k2 := by omega
      have hxor := nxor 3 x y (by have := fm_big hk; omega) (by have := fm_big hk; omega)
      rw [Int.toNat_natCast, Int.toNat_natCast]
      rw [h1] at HV1
      rw [h2] at HV2
      clear hT h1 h2 hx hy hk e
      generalize x ^^^ y = z at *
      go_enter Tryd.func103, Tryd.ntmps103
      go_wp2_with (first
        | (go_at_call 80; refine HV1.out.mono ?_; rintro e w' ⟨rfl, rfl⟩; clear HV1)
        | (go_at_call 80; refine HV2.out.mono ?_; rintro e w' ⟨rfl, rfl⟩; clear HV2))
      go_ret2
      exact ⟨rfl, _, rfl⟩
    · rw [if_neg (fun h => h2 h.2)]
      rw [h1] at HV1
      rw [Bool.eq_false_iff.2 h2] at HV2
      clear hT h1 h2
      go_enter Tryd.func103, Tryd.ntmps103
      go_wp2_with (first
        | (go_at_call 80; refine HV1.out.mono ?_; rintro e w' ⟨rfl, rfl⟩; clear HV1)
        | (go_at_call 80; refine HV2.out.mono ?_; rintro e w' ⟨rfl, rfl⟩; clear HV2))
      go_ret2
      exact ⟨rfl, _, rfl⟩
  · rw [if_neg (fun h => h1 h.1)]
    rw [Bool.eq_false_iff.2 h1] at HV1
    clear hT h1 HV2
    go_enter Tryd.func103, Tryd.ntmps103
    go_wp2_with (go_at_call 80; refine HV1.out.mono ?_; rintro e w' ⟨rfl, rfl⟩; clear HV1)
    go_ret2
    exact ⟨rfl, _, rfl⟩
set_option maxHeartbeats 400000 in
theorem mul_any (m a b : Int) (w : World) (hT : Tabs w) (n : Nat) :
    Calls Tryd.prog 102 #[.int .i64 m, .int .i64 a, .int .i64 b] (w.drewN n) fun e w' => e = .returned (nerr (mlR m a b).1 (mlR m a b).2) ∧ ∃ k, w' = w.drewN k := by
  have HV1 := hideIt (valid_dr m a w hT n)
  have HV2 := hideIt (valid_dr m b w hT n)
  unfold mlR nerr
  by_cases h1 : vd m a = true
  · by_cases h2 : vd m b = true
    · rw [if_pos ⟨h1, h2⟩]
      obtain ⟨k, x, rfl, rfl, hk, hx⟩ := vd_spec h1
      obtain ⟨k2, y, e, rfl, _, hy⟩ := vd_spec h2
      obtain rfl : k = k2 := by omega
      have HP := hideIt (prod_any k x y hk hx hy w hT n)
      rw [Int.toNat_natCast, Int.toNat_natCast, Int.toNat_natCast]
      rw [h1] at HV1
      rw [h2] at HV2
      clear hT h1 h2 hx hy hk e
      generalize mul k x y = z at *
      go_enter Tryd.func102, Tryd.ntmps102
      go_wp2_with (first
        | (go_at_call 80; refine HV1.out.mono ?_; rintro e w' ⟨rfl, rfl⟩; clear HV1)
        | (go_at_call 80; refine HV2.out.mono ?_; rintro e w' ⟨rfl, rfl⟩; clear HV2)
        | (go_at_call 84; refine HP.out.mono ?_; rintro e w' ⟨rfl, n2, rfl⟩; clear HP))
      go_ret2
      exact ⟨rfl, _, rfl⟩
    · rw [if_neg (fun h => h2 h.2)]
      rw [h1] at HV1
      rw [Bool.eq_false_iff.2 h2] at HV2
      clear hT h1 h2
      go_enter Tryd.func102, Tryd.ntmps102
      go_wp2_with (first
        | (go_at_call 80; refine HV1.out.mono ?_; rintro e w' ⟨rfl, rfl⟩; clear HV1)
        | (go_at_call 80; refine HV2.out.mono ?_; rintro e w' ⟨rfl, rfl⟩; clear HV2))
      go_ret2
      exact ⟨rfl, _, rfl⟩
  · rw [if_neg (fun h => h1 h.1)]
    rw [Bool.eq_false_iff.2 h1] at HV1
    clear hT h1 HV2
    go_enter Tryd.func102, Tryd.ntmps102
    go_wp2_with (go_at_call 80; refine HV1.out.mono ?_; rintro e w' ⟨rfl, rfl⟩; clear HV1)
    go_ret2
    exact ⟨rfl, _, rfl⟩
theorem int_eqlF (t : TypeId) {a b : Int} (h : a ≠ b) : binOp .eql t (.int .i64 a) (.int .i64 b) = pure (.bool false) := by
  rw [binOp_eql, beq_eq_false_iff_ne.2 h]
theorem int_eqlT (t : TypeId) {a b : Int} (h : a = b) : binOp .eql t (.int .i64 a) (.int .i64 b) = pure (.bool true) := by
  rw [binOp_eql, h]; simp
set_option maxHeartbeats 400000 in
theorem pow_any (m a x : Int) (h64 : -9223372036854775808 ≤ x ∧ x ≤ 9223372036854775807) (w : World) (hT : Tabs w) (n : Nat) :
    Calls Tryd.prog 99 #[.int .i64 m, .int .i64 a, .int .i64 x] (w.drewN n) fun e w' => e = .returned (nerr (powR m a x).1 (powR m a x).2) ∧ ∃ k, w' = w.drewN k := by
  have HV1 := hideIt (valid_dr m a w hT n)
  unfold powR nerr
  by_cases h1 : vd m a = true
  · rw [if_pos h1]
    obtain ⟨k, y, rfl, rfl, hk, hy⟩ := vd_spec h1
    rw [h1] at HV1
    by_cases h2 : (y : Int) = 0 ∧ x < 0
    · rw [if_pos h2]
      obtain ⟨h0, h3⟩ := h2
      have hq := int_eqlT 3 h0
      clear hT h1 hy hk h0
      go_enter Tryd.func99, Tryd.ntmps99
      go_wp2_with (go_at_call 80; refine HV1.out.mono ?_; rintro e w' ⟨rfl, rfl⟩; clear HV1)
      go_ret2
      exact ⟨rfl, _, rfl⟩
    · rw [if_neg h2, Int.toNat_natCast, Int.toNat_natCast]
      have HP := hideIt (power_any k y x hk hy h64 w hT n)
      generalize pwZ k y x = z at *
      by_cases h0 : (y : Int) = 0
      · have hq := int_eqlT 3 h0
        have h3 : ¬ x < 0 := fun h => h2 ⟨h0, h⟩
        clear hT h1 hy hk h0 h2
        go_enter Tryd.func99, Tryd.ntmps99
        go_wp2_with (first
          | (go_at_call 80; refine HV1.out.mono ?_; rintro e w' ⟨rfl, rfl⟩; clear HV1)
          | (go_at_call 106; refine HP.out.mono ?_; rintro e w' ⟨rfl, n2, rfl⟩; clear HP))
        go_ret2
        exact ⟨rfl, _, rfl⟩
      · have hq := int_eqlF 3 h0
        clear hT h1 hy hk h0 h2
        go_enter Tryd.func99, Tryd.ntmps99
        go_wp2_with (first
          | (go_at_call 80; refine HV1.out.mono ?_; rintro e w' ⟨rfl, rfl⟩; clear HV1)
          | (go_at_call 106; refine HP.out.mono ?_; rintro e w' ⟨rfl, n2, rfl⟩; clear HP))
        go_ret2
        exact ⟨rfl, _, rfl⟩
  · rw [if_neg h1]
    rw [Bool.eq_false_iff.2 h1] at HV1
    clear hT h1
    go_enter Tryd.func99, Tryd.ntmps99
    go_wp2_with (go_at_call 80; refine HV1.out.mono ?_; rintro e w' ⟨rfl, rfl⟩; clear HV1)
    go_ret2
    exact ⟨rfl, _, rfl⟩
set_option maxHeartbeats 400000 in
theorem inv_any (m a : Int) (w : World) (hT : Tabs w) (n : Nat) :
    Calls Tryd.prog 86 #[.int .i64 m, .int .i64 a] (w.drewN n) fun e w' => e = .returned (nerr (invR m a).1 (invR m a).2) ∧ ∃ k, w' = w.drewN k := by
  have HP := hideIt (pow_any m a (-1) (by omega) w hT n)
  unfold invR
  generalize (powR m a (-1)).1 = x at *
  generalize (powR m a (-1)).2 = y at *
  unfold nerr at *
  clear hT
  go_enter Tryd.func86, Tryd.ntmps86
  go_wp2_with (go_at_call 99; refine HP.out.mono ?_; rintro e w' ⟨rfl, n2, rfl⟩; clear HP)
  go_ret2
  exact ⟨rfl, _, rfl⟩
theorem invR_lt (m : Nat) (b : Int) (hm : Fm m) : (invR (m : Int) b).1 < 2 ^ m := by
  unfold invR powR
  split
  · split
    · exact Nat.two_pow_pos m
    · rw [Int.toNat_natCast]; exact pwZ_lt hm _ _
  · exact Nat.two_pow_pos m
theorem invR_err (m b : Int) : (invR m b).2 = 0 ∨ (invR m b).2 = 1 ∨ (invR m b).2 = 12 := by
  unfold invR powR
  split
  · split <;> simp
  · simp
end

section
open Go.RowKit
set_option linter.unusedVariables false
theorem rpoly_any (m : Int) (w : World) :
    Calls Tryd.prog 68 #[.int .i64 m] w fun e w' => e = .returned (.int .i64 (if m = 8 then 285 else if m = 16 then 69643 else 0)) ∧ w = w' := by
  by_cases h8 : m = 8
  · subst h8
    go_enter Tryd.func68, Tryd.ntmps68
    go_wp2_with fail
    go_ret
    exact ⟨rfl, rfl⟩
  by_cases h16 : m = 16
  · subst h16
    go_enter Tryd.func68, Tryd.ntmps68
    go_wp2_with fail
    go_ret
    exact ⟨rfl, rfl⟩
  rw [if_neg h8, if_neg h16]
  have e8 := int_eqlF 3 h8
  have e16 := int_eqlF 3 h16
  clear h8 h16
  go_enter Tryd.func68, Tryd.ntmps68
  go_wp2_with fail
  go_ret
  exact ⟨rfl, rfl⟩
theorem rpoly_m {m : Nat} (hm : Fm m) (w : World) : Calls Tryd.prog 68 #[.int .i64 (m : Int)] w fun e w' => e = .returned (.int .i64 (pol m : Nat)) ∧ w = w' := by
  refine (rpoly_any m w).mono ?_
  rintro e w' ⟨rfl, rfl⟩
  rcases hm with rfl | rfl <;> exact ⟨rfl, rfl⟩
set_option maxHeartbeats 400000 in
theorem rvalid_any (m a : Int) (w : World) :
    Calls Tryd.prog 52 #[.int .i64 m, .int .i64 a] w fun e w' => e = .returned (.bool (vd m a)) ∧ w = w' := by
  have HP := hideIt (rpoly_any m w)
  by_cases hm : m = 8 ∨ m = 16
  · have hne : (if m = 8 then (285 : Int) else if m = 16 then 69643 else 0) ≠ 0 := by split; decide; split; decide; omega
    generalize (if m = 8 then (285 : Int) else if m = 16 then 69643 else 0) = p at *
    have hv : vd m a = decide (0 ≤ a ∧ a < 2 ^ m.toNat) := by
      unfold vd
      apply decide_eq_decide.2
      exact ⟨fun h => h.2, fun h => ⟨hm, h⟩⟩
    have hshl : binOp .shl 3 (.int .i64 1) (.int .i64 m) = pure (.int .i64 (2 ^ m.toNat)) := by
      rcases hm with rfl | rfl
      · exact nshl_one 3 8 (by decide)
      · exact nshl_one 3 16 (by decide)
    generalize (2 : Int) ^ m.toNat = P at *
    have hpne : binOp .neq 3 (.int .i64 p) (.int .i64 0) = pure (.bool true) := by
      rw [binOp_neq]
      have h2 : (p != 0) = true := by rw [bne_iff_ne]; exact hne
      rw [h2]
    rw [hv]
    clear hv hm hne
    by_cases h0 : 0 ≤ a
    · by_cases h1 : a < P
      · rw [decide_eq_true ⟨h0, h1⟩]
        go_enter Tryd.func52, Tryd.ntmps52
        go_wp2_with (go_at_call 68; refine HP.out.mono ?_; rintro e w' ⟨rfl, rfl⟩; clear HP)
        go_ret
        exact ⟨rfl, rfl⟩
      · rw [decide_eq_false (by omega)]
        go_enter Tryd.func52, Tryd.ntmps52
        go_wp2_with (go_at_call 68; refine HP.out.mono ?_; rintro e w' ⟨rfl, rfl⟩; clear HP)
        go_ret
        exact ⟨by show Ending.returned (.bool (decide (a < P))) = _; rw [decide_eq_false (by omega)], rfl⟩
    · rw [decide_eq_false (by omega)]
      go_enter Tryd.func52, Tryd.ntmps52
      go_wp2_with (go_at_call 68; refine HP.out.mono ?_; rintro e w' ⟨rfl, rfl⟩; clear HP)
      go_ret
      exact ⟨rfl, rfl⟩
  · have hz : (if m = 8 then (285 : Int) else if m = 16 then 69643 else 0) = 0 := by rw [if_neg (by omega), if_neg (by omega)]
    rw [hz] at HP
    have hv : vd m a = false := by
      unfold vd
      apply decide_eq_false
      exact fun h => hm h.1
    rw [hv]
    clear hv hz hm
    go_enter Tryd.func52, Tryd.ntmps52
    go_wp2_with (go_at_call 68; refine HP.out.mono ?_; rintro e w' ⟨rfl, rfl⟩; clear HP)
    go_ret
    exact ⟨rfl, rfl⟩
theorem rem1_c (t : TypeId) (y : Nat) (h : y % 2 = 1) : binOp .rem t (.int .i64 (y : Int)) (.int .i64 2) = pure (.int .i64 1) := by
  have := nrem t y 2 (by decide)
  rw [h] at this
  exact this
theorem rem0_c (t : TypeId) (y : Nat) (h : ¬ y % 2 = 1) : binOp .rem t (.int .i64 (y : Int)) (.int .i64 2) = pure (.int .i64 0) := by
  have := nrem t y 2 (by decide)
  rw [show y % 2 = 0 by omega] at this
  exact this
theorem nquo2 (t : TypeId) (y : Nat) (h : y < 9223372036854775808) : binOp .quo t (.int .i64 (y : Int)) (.int .i64 2) = pure (.int .i64 ((y / 2 : Nat) : Int)) := nquo t y 2 (by decide) h
theorem nmul2 (t : TypeId) (y : Nat) (h : y < 4294967296) : binOp .mul t (.int .i64 2) (.int .i64 (y : Int)) = pure (.int .i64 ((2 * y : Nat) : Int)) := nmul t 2 y (by omega)
set_option maxHeartbeats 400000 in
theorem times_any (m a b : Nat) (hm : Fm m) (ha : a < 2 ^ m) (hb : b < 4294967296) (w : World) :
    Calls Tryd.prog 79 #[.int .i64 (m : Int), .int .i64 (a : Int), .int .i64 (b : Int)] w fun e w' => e = .returned (.int .i64 ((ml m a b : Nat) : Int)) ∧ w = w' := by
  have HM := hideIt hm
  have HA := hideIt ha
  have HB := hideIt hb
  have HPO := hideIt (rpoly_m hm w)
  have hshl := nshl_one 3 m (fm_le hm)
  obtain ⟨P, hP⟩ : ∃ P, P = 2 ^ m := ⟨_, rfl⟩
  rw [← hP] at hshl
  have HPP := hideIt hP
  obtain ⟨z, hz⟩ : ∃ z, z = ml m a b := ⟨_, rfl⟩
  rw [← hz]
  have HZ := hideIt hz
  have hpl : pol m ≤ 69643 := by unfold pol; split <;> omega
  obtain ⟨p, hp⟩ : ∃ p, p = pol m := ⟨_, rfl⟩
  rw [← hp] at HPO hpl
  have HP := hideIt hp
  have HPL := hideIt hpl
  clear hm ha hb hz hp hpl hP
  go_enter Tryd.func79, Tryd.ntmps79
  go_wp2_with (go_at_call 68; refine HPO.out.mono ?_; rintro e w' ⟨rfl, rfl⟩; clear HPO)
  go_loopg [1, 2, 8] b (fun g s1 s2 s8 wr => ∃ (x y s : Nat), y = g ∧ s1 = .int .i64 (x : Int) ∧ s2 = .int .i64 (y : Int) ∧ s8 = .int .i64 (s : Int) ∧ wr = w ∧ Aside (x < 2 ^ m ∧ s < 2 ^ m ∧ y ≤ b ∧ s ^^^ ml m x y = z))
  case atStart => exact ⟨a, b, 0, rfl, rfl, rfl, rfl, rfl, HA.out, Nat.two_pow_pos m, Nat.le_refl _, by rw [zx, HZ.out]⟩
  case round =>
    obtain ⟨x, y, s, rfl, rfl, rfl, rfl, rfl, HQ⟩ := hrel
    by_cases hy : 0 < y
    · obtain ⟨hx, hs, hyb, he⟩ := HQ.out
      have hbig := fm_big HM.out
      have hb := HB.out
      have hmul := nmul2 3 x (by omega)
      have hhalf := nquo2 3 y (by omega)
      have hpl := HPL.out
      have hxorA := nxor 3 s x (by omega) (by omega)
      have hxorB := nxor 3 (2 * x) p (by omega) (by omega)
      have hstp := xt_ref HM.out hx
      rw [← HP.out, ← HPP.out] at hstp
      have HN : Hid (xt m x < 2 ^ m ∧ (s ^^^ (x * (y % 2))) < 2 ^ m ∧ y / 2 ≤ b ∧ (s ^^^ (x * (y % 2))) ^^^ ml m (xt m x) (y / 2) = z ∧ y / 2 < y) :=
        hideIt ⟨xt_lt HM.out hx, step_lt HM.out y hs hx, by omega, by rw [xa, ← ml_step, he], by omega⟩
      have hyi : (0 : Int) < (y : Int) := by omega
      by_cases ho : y % 2 = 1
      · by_cases hge : P ≤ 2 * x
        ·
          have hrem := rem1_c 3 y ho
          rw [if_pos hge] at hstp
          have hgi : (P : Int) ≤ ((2 * x : Nat) : Int) := by omega
          have e0 : s ^^^ (x * (y % 2)) = s ^^^ x := by rw [ho]; simp
          rw [e0, ← hstp] at HN
          clear hx hs hyb he hbig hb hpl hstp HQ ho hge e0 HPP
          generalize s ^^^ x = s3 at *
          generalize 2 * x ^^^ p = x3 at *
          generalize y / 2 = y2 at *
          generalize 2 * x = x2 at *
          go_wp2_with fail
          go_roundg y2
          case measure => exact HN.out.2.2.2.2
          case rel => exact ⟨_, y2, _, rfl, rfl, rfl, rfl, rfl, HN.out.1, HN.out.2.1, HN.out.2.2.1, HN.out.2.2.2.1⟩
        ·
          have hrem := rem1_c 3 y ho
          rw [if_neg hge] at hstp
          have hgi : ¬ (P : Int) ≤ ((2 * x : Nat) : Int) := by omega
          have e0 : s ^^^ (x * (y % 2)) = s ^^^ x := by rw [ho]; simp
          rw [e0, ← hstp] at HN
          clear hx hs hyb he hbig hb hpl hstp HQ ho hge e0 HPP
          generalize s ^^^ x = s3 at *
          generalize y / 2 = y2 at *
          generalize 2 * x = x2 at *
          go_wp2_with fail
          go_roundg y2
          case measure => exact HN.out.2.2.2.2
          case rel => exact ⟨_, y2, _, rfl, rfl, rfl, rfl, rfl, HN.out.1, HN.out.2.1, HN.out.2.2.1, HN.out.2.2.2.1⟩
      · by_cases hge : P ≤ 2 * x
        ·
          have hrem := rem0_c 3 y ho
          rw [if_pos hge] at hstp
          have hgi : (P : Int) ≤ ((2 * x : Nat) : Int) := by omega
          have e0 : s ^^^ (x * (y % 2)) = s := by rw [show y % 2 = 0 by omega]; simp
          rw [e0, ← hstp] at HN
          clear hx hs hyb he hbig hb hpl hstp HQ ho hge e0 HPP
          generalize 2 * x ^^^ p = x3 at *
          generalize y / 2 = y2 at *
          generalize 2 * x = x2 at *
          go_wp2_with fail
          go_roundg y2
          case measure => exact HN.out.2.2.2.2
          case rel => exact ⟨_, y2, _, rfl, rfl, rfl, rfl, rfl, HN.out.1, HN.out.2.1, HN.out.2.2.1, HN.out.2.2.2.1⟩
        ·
          have hrem := rem0_c 3 y ho
          rw [if_neg hge] at hstp
          have hgi : ¬ (P : Int) ≤ ((2 * x : Nat) : Int) := by omega
          have e0 : s ^^^ (x * (y % 2)) = s := by rw [show y % 2 = 0 by omega]; simp
          rw [e0, ← hstp] at HN
          clear hx hs hyb he hbig hb hpl hstp HQ ho hge e0 HPP
          generalize y / 2 = y2 at *
          generalize 2 * x = x2 at *
          go_wp2_with fail
          go_roundg y2
          case measure => exact HN.out.2.2.2.2
          case rel => exact ⟨_, y2, _, rfl, rfl, rfl, rfl, rfl, HN.out.1, HN.out.2.1, HN.out.2.2.1, HN.out.2.2.2.1⟩
    · obtain rfl : y = 0 := by omega
      have HE : Hid (s = z) := hideIt (by rw [← HQ.out.2.2.2, ml_zero, xz])
      clear HQ
      go_wp2
      go_ret
      exact ⟨by rw [HE.out]; rfl, rfl⟩
theorem tim_any (m a b : Nat) (hm : Fm m) (ha : a < 2 ^ m) (hb : b < 2 ^ m) (w : World) :
    Calls Tryd.prog 79 #[.int .i64 (m : Int), .int .i64 (a : Int), .int .i64 (b : Int)] w fun e w' => e = .returned (.int .i64 ((mul m a b : Nat) : Int)) ∧ w = w' := by
  rw [← ml_mul m a b hb]
  exact times_any m a b hm ha (by have := fm_big hm; omega) w
set_option maxHeartbeats 400000 in
theorem rmul_any (m a b : Int) (w : World) :
    Calls Tryd.prog 105 #[.int .i64 m, .int .i64 a, .int .i64 b] w fun e w' => e = .returned (nerr (mlR m a b).1 (mlR m a b).2) ∧ w = w' := by
  have HV1 := hideIt (rvalid_any m a w)
  have HV2 := hideIt (rvalid_any m b w)
  unfold mlR nerr
  by_cases h1 : vd m a = true
  · by_cases h2 : vd m b = true
    · rw [if_pos ⟨h1, h2⟩]
      obtain ⟨k, x, rfl, rfl, hk, hx⟩ := vd_spec h1
      obtain ⟨k2, y, e, rfl, _, hy⟩ := vd_spec h2
      obtain rfl : k = k2 := by omega
      have HP := hideIt (tim_any k x y hk hx hy w)
      rw [Int.toNat_natCast, Int.toNat_natCast, Int.toNat_natCast]
      rw [h1] at HV1
      rw [h2] at HV2
      clear h1 h2 hx hy hk e
      generalize mul k x y = z at *
      go_enter Tryd.func105, Tryd.ntmps105
      go_wp2_with (first
        | (go_at_call 52; refine HV1.out.mono ?_; rintro e w' ⟨rfl, rfl⟩; clear HV1)
        | (go_at_call 52; refine HV2.out.mono ?_; rintro e w' ⟨rfl, rfl⟩; clear HV2)
        | (go_at_call 79; refine HP.out.mono ?_; rintro e w' ⟨rfl, rfl⟩; clear HP))
      go_ret2
      exact ⟨rfl, rfl⟩
    · rw [if_neg (fun h => h2 h.2)]
      rw [h1] at HV1
      rw [Bool.eq_false_iff.2 h2] at HV2
      clear h1 h2
      go_enter Tryd.func105, Tryd.ntmps105
      go_wp2_with (first
        | (go_at_call 52; refine HV1.out.mono ?_; rintro e w' ⟨rfl, rfl⟩; clear HV1)
        | (go_at_call 52; refine HV2.out.mono ?_; rintro e w' ⟨rfl, rfl⟩; clear HV2)
        | (go_at_call 79; refine HP.out.mono ?_; rintro e w' ⟨rfl, rfl⟩; clear HP))
      go_ret2
      exact ⟨rfl, rfl⟩
  · rw [if_neg (fun h => h1 h.1)]
    rw [Bool.eq_false_iff.2 h1] at HV1
    clear h1
    generalize vd m b = v2 at *
    go_enter Tryd.func105, Tryd.ntmps105
    go_wp2_with (first
      | (go_at_call 52; refine HV1.out.mono ?_; rintro e w' ⟨rfl, rfl⟩; clear HV1)
      | (go_at_call 52; refine HV2.out.mono ?_; rintro e w' ⟨rfl, rfl⟩; clear HV2)
      | (go_at_call 79; refine HP.out.mono ?_; rintro e w' ⟨rfl, rfl⟩; clear HP))
    go_ret2
    exact ⟨rfl, rfl⟩
end

section
open Go.RowKit
set_option linter.unusedVariables false
set_option maxHeartbeats 400000 in
theorem rpower_any (m a N : Nat) (hm : Fm m) (ha : a < 2 ^ m) (hN : N < 4294967296) (w : World) :
    Calls Tryd.prog 92 #[.int .i64 (m : Int), .int .i64 (a : Int), .int .i64 (N : Int)] w fun e w' => e = .returned (.int .i64 ((pw m a N : Nat) : Int)) ∧ w = w' := by
  have HM := hideIt hm
  have hr : powLoop m 1 a N (pw m a N) := ⟨fm_one hm, ha, by rw [mul_oneL hm (pw_lt hm a _)]⟩
  have HR := hideIt hr
  have HNB := hideIt hN
  generalize pw m a N = r at *
  clear hm ha hN hr
  go_enter Tryd.func92, Tryd.ntmps92
  go_wp2
  go_loopg [1, 2, 7] N (fun g s1 s2 s7 wr => ∃ (x y s : Nat), y = g ∧ s1 = .int .i64 (x : Int) ∧ s2 = .int .i64 (y : Int) ∧ s7 = .int .i64 (s : Int) ∧ wr = w ∧ Aside (y ≤ N ∧ powLoop m s x y r))
  case atStart => exact ⟨a, N, 1, rfl, rfl, rfl, rfl, rfl, Nat.le_refl _, HR.out⟩
  case round =>
    obtain ⟨x, y, s, rfl, rfl, rfl, rfl, rfl, HQ⟩ := hrel
    by_cases hy : 0 < y
    · have hyi : (0 : Int) < (y : Int) := by omega
      have hyN := HQ.out.1
      have hNB := HNB.out
      have hx := HQ.out.2.2.1
      have hhalf := nquo2 3 y (by omega)
      have HSQ := hideIt (tim_any m x x HM.out hx hx wr)
      have HNX := hideIt (powLoop_next HM.out HQ.out.2)
      have HLT := hideIt (show y / 2 ≤ N ∧ y / 2 < y by omega)
      by_cases ho : y % 2 = 1
      · have hrem := rem1_c 3 y ho
        have HP1 := hideIt (tim_any m s x HM.out HQ.out.2.1 hx wr)
        have HNX := hideIt (by have := HNX.out; rw [if_pos ho] at this; exact this)
        clear hyN hNB hx HQ ho
        generalize mul m x x = x2 at *
        generalize mul m s x = s2 at *
        generalize y / 2 = y2 at *
        go_wp2_with (first
          | (go_at_call 79; refine HP1.out.mono ?_; rintro e w' ⟨rfl, rfl⟩; clear HP1)
          | (go_at_call 79; refine HSQ.out.mono ?_; rintro e w' ⟨rfl, rfl⟩; clear HSQ))
        go_roundg y2
        case measure => exact HLT.out.2
        case rel => exact ⟨x2, y2, s2, rfl, rfl, rfl, rfl, rfl, HLT.out.1, HNX.out⟩
      · have hrem := rem0_c 3 y ho
        have HNX := hideIt (by have := HNX.out; rw [if_neg ho] at this; exact this)
        clear hyN hNB hx HQ ho
        generalize mul m x x = x2 at *
        generalize y / 2 = y2 at *
        go_wp2_with (go_at_call 79; refine HSQ.out.mono ?_; rintro e w' ⟨rfl, rfl⟩; clear HSQ)
        go_roundg y2
        case measure => exact HLT.out.2
        case rel => exact ⟨x2, y2, s, rfl, rfl, rfl, rfl, rfl, HLT.out.1, HNX.out⟩
    · obtain rfl : y = 0 := by omega
      have HE : Hid (s = r) := hideIt (by have h := HQ.out.2.2.2; rw [show pw m x 0 = 1 from rfl, mul_oneR HM.out] at h; exact h)
      clear HQ
      go_wp2
      go_ret
      exact ⟨by rw [HE.out]; rfl, rfl⟩
theorem nsub_two (t : TypeId) (a : Nat) (h : 2 ≤ a) (ha : a < 9223372036854775808) : binOp .sub t (.int .i64 (a : Int)) (.int .i64 2) = pure (.int .i64 ((a - 2 : Nat) : Int)) := nsub t a 2 h ha
set_option maxHeartbeats 400000 in
theorem rinv_any (m a : Int) (w : World) :
    Calls Tryd.prog 78 #[.int .i64 m, .int .i64 a] w fun e w' => e = .returned (nerr (invR m a).1 (invR m a).2) ∧ w = w' := by
  have HV1 := hideIt (rvalid_any m a w)
  unfold invR powR nerr
  by_cases h1 : vd m a = true
  · rw [if_pos h1]
    obtain ⟨k, y, rfl, rfl, hk, hy⟩ := vd_spec h1
    rw [h1] at HV1
    by_cases h0 : (y : Int) = 0
    · rw [if_pos ⟨h0, by decide⟩]
      have hq := int_eqlT 3 h0
      clear h1 hy hk h0
      go_enter Tryd.func78, Tryd.ntmps78
      go_wp2_with (go_at_call 52; refine HV1.out.mono ?_; rintro e w' ⟨rfl, rfl⟩; clear HV1)
      go_ret2
      exact ⟨rfl, rfl⟩
    · rw [if_neg (fun h => h0 h.1), Int.toNat_natCast, Int.toNat_natCast, pwZ_inv hk hy (by omega)]
      have hq := int_eqlF 3 h0
      have hshl := nshl_one 3 k (fm_le hk)
      have hsub := nsub_two 3 (2 ^ k) (by have := fm_two hk; omega) (by have := fm_big hk; omega)
      have HP := hideIt (rpower_any k y (2 ^ k - 2) hk hy (by have := fm_big hk; omega) w)
      rw [show inv k y = pw k y (2 ^ k - 2) from rfl]
      generalize 2 ^ k - 2 = e2 at *
      generalize 2 ^ k = e1 at *
      generalize pw k y e2 = z at *
      clear h1 hk h0 hy
      go_enter Tryd.func78, Tryd.ntmps78
      go_wp2_with (first
        | (go_at_call 52; refine HV1.out.mono ?_; rintro e w' ⟨rfl, rfl⟩; clear HV1)
        | (go_at_call 92; refine HP.out.mono ?_; rintro e w' ⟨rfl, rfl⟩; clear HP))
      go_ret2
      exact ⟨rfl, rfl⟩
  · rw [if_neg h1]
    rw [Bool.eq_false_iff.2 h1] at HV1
    clear h1
    go_enter Tryd.func78, Tryd.ntmps78
    go_wp2_with (go_at_call 52; refine HV1.out.mono ?_; rintro e w' ⟨rfl, rfl⟩; clear HV1)
    go_ret2
    exact ⟨rfl, rfl⟩
end

section
open Go.RowKit
set_option linter.unusedVariables false
section
variable {m x y : Nat} (hm : Fm m) (hx : x < 2 ^ m)
include hm hx
theorem mlR_is (hy : y < 2 ^ m) : mlR (m : Int) (x : Int) (y : Int) = (mul m x y, 0) := by
  unfold mlR; rw [if_pos ⟨vd_true hm hx, vd_true hm hy⟩]; rfl
theorem addR_is (hy : y < 2 ^ m) : addR (m : Int) (x : Int) (y : Int) = (x ^^^ y, 0) := by
  unfold addR; rw [if_pos ⟨vd_true hm hx, vd_true hm hy⟩]; rfl
theorem invR_is (h0 : x ≠ 0) : invR (m : Int) (x : Int) = (inv m x, 0) := by
  unfold invR powR; rw [if_pos (vd_true hm hx), if_neg (by omega)]
  show (pwZ m x (-1), (0 : Int)) = _
  rw [pwZ_inv hm hx h0]
end
section
variable {w : World} (hT : Tabs w) {m x y : Nat} (hm : Fm m) (hx : x < 2 ^ m)
include hT hm hx
theorem fmul_is (hy : y < 2 ^ m) (n : Nat) : Calls Tryd.prog 102 #[.int .i64 (m : Int), .int .i64 (x : Int), .int .i64 (y : Int)] (w.drewN n) fun e w' => e = .returned (.tuple #[.int .i64 ((mul m x y : Nat) : Int), .int .i64 0]) ∧ ∃ k, w' = w.drewN k := by
  have h := mul_any (m : Int) (x : Int) (y : Int) w hT n
  rw [mlR_is hm hx hy] at h
  exact h
theorem fadd_is (hy : y < 2 ^ m) (n : Nat) : Calls Tryd.prog 103 #[.int .i64 (m : Int), .int .i64 (x : Int), .int .i64 (y : Int)] (w.drewN n) fun e w' => e = .returned (.tuple #[.int .i64 ((x ^^^ y : Nat) : Int), .int .i64 0]) ∧ ∃ k, w' = w.drewN k := by
  have h := add_any (m : Int) (x : Int) (y : Int) w hT n
  rw [addR_is hm hx hy] at h
  exact h
theorem finv_is (h0 : x ≠ 0) (n : Nat) : Calls Tryd.prog 86 #[.int .i64 (m : Int), .int .i64 (x : Int)] (w.drewN n) fun e w' => e = .returned (.tuple #[.int .i64 ((inv m x : Nat) : Int), .int .i64 0]) ∧ ∃ k, w' = w.drewN k := by
  have h := inv_any (m : Int) (x : Int) w hT n
  rw [invR_is hm hx h0] at h
  exact h
end
end

section
open Go.RowKit
set_option linter.unusedVariables false
set_option maxHeartbeats 400000 in
theorem div_any (m a b : Int) (w : World) (hT : Tabs w) (n : Nat) :
    Calls Tryd.prog 73 #[.int .i64 m, .int .i64 a, .int .i64 b] (w.drewN n) fun e w' => e = .returned (nerr (divR m a b).1 (divR m a b).2) ∧ ∃ k, w' = w.drewN k := by
  have HV1 := hideIt (valid_dr m a w hT n)
  have HI := hideIt (inv_any m b w hT n)
  unfold divR
  by_cases h1 : vd m a = true
  · rw [if_pos h1]
    obtain ⟨k, y, rfl, rfl, hk, hy⟩ := vd_spec h1
    rw [h1] at HV1
    have hlt := invR_lt k b hk
    have herr := invR_err k b
    generalize (invR (k : Int) b).1 = x at *
    generalize (invR (k : Int) b).2 = e0 at *
    by_cases h0 : e0 = 0
    · subst h0
      rw [if_pos rfl, Int.toNat_natCast, Int.toNat_natCast]
      have HP := hideIt (fun n => prod_any k y x hk hy hlt w hT n)
      generalize mul k y x = z at *
      unfold nerr at *
      clear hT h1 hy hk hlt herr
      go_enter Tryd.func73, Tryd.ntmps73
      go_wp2_with (first
        | (go_at_call 80; refine HV1.out.mono ?_; rintro e w' ⟨rfl, rfl⟩; clear HV1)
        | (go_at_call 86; refine HI.out.mono ?_; rintro e w' ⟨rfl, n2, rfl⟩; clear HI)
        | (go_at_call 84; refine (HP.out _).mono ?_; rintro e w' ⟨rfl, n3, rfl⟩; clear HP))
      go_ret2
      exact ⟨rfl, _, rfl⟩
    · rw [if_neg h0]
      have hne : (e0 != 0) = true := by simpa using h0
      unfold nerr at *
      clear hT h1 hy hk hlt herr
      go_enter Tryd.func73, Tryd.ntmps73
      go_wp2_with (first
        | (go_at_call 80; refine HV1.out.mono ?_; rintro e w' ⟨rfl, rfl⟩; clear HV1)
        | (go_at_call 86; refine HI.out.mono ?_; rintro e w' ⟨rfl, n2, rfl⟩; clear HI))
      go_ret2
      exact ⟨rfl, _, rfl⟩
  · rw [if_neg h1]
    rw [Bool.eq_false_iff.2 h1] at HV1
    unfold nerr
    clear hT h1 HI
    go_enter Tryd.func73, Tryd.ntmps73
    go_wp2_with (go_at_call 80; refine HV1.out.mono ?_; rintro e w' ⟨rfl, rfl⟩; clear HV1)
    go_ret2
    exact ⟨rfl, _, rfl⟩
end

section
open Go.RowKit
set_option linter.unusedVariables false
theorem divR_bad {m a b : Int} (h1 : vd m a = true) (h2 : ¬ vd m b = true) : divR m a b = (0, 1) := by
  unfold divR invR powR
  rw [if_pos h1, if_neg h2]
  rfl
set_option maxHeartbeats 400000 in
theorem rdiv_any (m a b : Int) (w : World) :
    Calls Tryd.prog 59 #[.int .i64 m, .int .i64 a, .int .i64 b] w fun e w' => e = .returned (nerr (divR m a b).1 (divR m a b).2) ∧ w = w' := by
  have HV1 := hideIt (rvalid_any m a w)
  have HV2 := hideIt (rvalid_any m b w)
  have HI := hideIt (rinv_any m b w)
  by_cases h1 : vd m a = true
  · by_cases h2 : vd m b = true
    · unfold divR
      rw [if_pos h1]
      obtain ⟨k, y, rfl, rfl, hk, hy⟩ := vd_spec h1
      rw [h1] at HV1
      rw [h2] at HV2
      have hlt := invR_lt k b hk
      have herr := invR_err k b
      clear h2
      generalize (invR (k : Int) b).1 = x at *
      generalize (invR (k : Int) b).2 = e0 at *
      by_cases h0 : e0 = 0
      · subst h0
        rw [if_pos rfl, Int.toNat_natCast, Int.toNat_natCast]
        have HP := hideIt (tim_any k y x hk hy hlt w)
        generalize mul k y x = z at *
        unfold nerr at *
        clear h1 hy hk hlt herr
        go_enter Tryd.func59, Tryd.ntmps59
        go_wp2_with (first
          | (go_at_call 52; refine HV1.out.mono ?_; rintro e w' ⟨rfl, rfl⟩; clear HV1)
          | (go_at_call 52; refine HV2.out.mono ?_; rintro e w' ⟨rfl, rfl⟩; clear HV2)
          | (go_at_call 78; refine HI.out.mono ?_; rintro e w' ⟨rfl, rfl⟩; clear HI)
          | (go_at_call 79; refine HP.out.mono ?_; rintro e w' ⟨rfl, rfl⟩; clear HP))
        go_ret2
        exact ⟨rfl, rfl⟩
      · rw [if_neg h0]
        have hne : (e0 != 0) = true := by simpa using h0
        unfold nerr at *
        clear h1 hy hk hlt herr
        go_enter Tryd.func59, Tryd.ntmps59
        go_wp2_with (first
          | (go_at_call 52; refine HV1.out.mono ?_; rintro e w' ⟨rfl, rfl⟩; clear HV1)
          | (go_at_call 52; refine HV2.out.mono ?_; rintro e w' ⟨rfl, rfl⟩; clear HV2)
          | (go_at_call 78; refine HI.out.mono ?_; rintro e w' ⟨rfl, rfl⟩; clear HI))
        go_ret2
        exact ⟨rfl, rfl⟩
    · rw [divR_bad h1 h2]
      rw [h1] at HV1
      rw [Bool.eq_false_iff.2 h2] at HV2
      unfold nerr
      clear h1 h2 HI
      go_enter Tryd.func59, Tryd.ntmps59
      go_wp2_with (first
        | (go_at_call 52; refine HV1.out.mono ?_; rintro e w' ⟨rfl, rfl⟩; clear HV1)
        | (go_at_call 52; refine HV2.out.mono ?_; rintro e w' ⟨rfl, rfl⟩; clear HV2))
      go_ret2
      exact ⟨rfl, rfl⟩
  · unfold divR
    rw [if_neg h1]
    rw [Bool.eq_false_iff.2 h1] at HV1
    unfold nerr
    clear h1 HI
    generalize vd m b = v2 at *
    go_enter Tryd.func59, Tryd.ntmps59
    go_wp2_with (first
      | (go_at_call 52; refine HV1.out.mono ?_; rintro e w' ⟨rfl, rfl⟩; clear HV1)
      | (go_at_call 52; refine HV2.out.mono ?_; rintro e w' ⟨rfl, rfl⟩; clear HV2))
    go_ret2
    exact ⟨rfl, rfl⟩
end

end Go.Proofs.YtklngodlijiccaaDoor
