/-
  What is known of the checksum: parts, concatenations, differences, short bursts, few bits. No program stands behind this text.
-/
import Derived.Test.YtbejmcndflmgaaaDoorCrcA
namespace Go.Proofs.YtbejmcndflmgaaaDoor
open Go.RowKit
set_option linter.unusedVariables false

theorem not_not (c : UInt32) : ~~~ (~~~ c) = c := by rw [not_is, not_is, xor_assoc, xor_self, xor_zero]
theorem ext_nil (c : UInt32) : ext c [] = c := not_not c
theorem ext_ext (c : UInt32) (a b : List UInt8) : ext (ext c a) b = ext c (a ++ b) := by
  unfold ext
  rw [not_not, feeds_app]
theorem ext_crc (a b : List UInt8) : ext (crc a) b = crc (a ++ b) := ext_ext 0 a b

def xorL (a b : List UInt8) : List UInt8 := List.zipWith (· ^^^ ·) a b
theorem xorL_len (a b : List UInt8) (h : a.length = b.length) : (xorL a b).length = a.length := by
  unfold xorL; rw [List.length_zipWith, ← h, Nat.min_self]
theorem fd_xor (r s : UInt32) (x y : UInt8) : fd (r ^^^ s) (x ^^^ y) = fd r x ^^^ fd s y := by
  unfold fd
  rw [UInt8.toUInt32_xor, ← stp_lin.itr 8]
  congr 1
  rw [xor_assoc, xor_assoc, xor_left s]
theorem feeds_xor : ∀ (a b : List UInt8) (r s : UInt32), a.length = b.length → feeds (r ^^^ s) (xorL a b) = feeds r a ^^^ feeds s b
  | [], [], r, s, _ => rfl
  | [], _ :: _, _, _, h => by simp at h
  | _ :: _, [], _, _, h => by simp at h
  | x :: a, y :: b, r, s, h => by
    show feeds (r ^^^ s) ((x ^^^ y) :: xorL a b) = _
    rw [feeds_cons, feeds_cons, feeds_cons, fd_xor]
    exact feeds_xor a b _ _ (by simpa using h)
theorem xorL_zero : ∀ l : List UInt8, xorL (List.replicate l.length 0) l = l
  | [] => rfl
  | x :: l => by
    show (0 ^^^ x) :: xorL (List.replicate l.length 0) l = _
    rw [xorL_zero l, UInt8.zero_xor]
theorem feeds_split (r : UInt32) (l : List UInt8) : feeds r l = zers r l.length ^^^ feeds 0 l := by
  have h := feeds_xor (List.replicate l.length 0) l r 0 (by simp)
  rw [xorL_zero, xor_zero, feeds_zeros] at h
  exact h
theorem zers_lin (n : Nat) : Lin (fun r => zers r n) := zer_lin.itr n
theorem zers_xor (n : Nat) (a b : UInt32) : zers (a ^^^ b) n = zers a n ^^^ zers b n := zers_lin n a b
theorem n0 : ~~~ (0 : UInt32) = 4294967295 := rfl
theorem crc_app (a b : List UInt8) : cmb (crc a) (crc b) b.length = crc (a ++ b) := by
  unfold cmb crc ext
  rw [n0, feeds_app, feeds_split (feeds 4294967295 a) b, feeds_split 4294967295 b]
  generalize feeds 4294967295 a = p
  generalize feeds 0 b = t
  rw [not_is p, zers_xor]
  generalize zers p b.length = u
  generalize zers 4294967295 b.length = v
  rw [not_is (v ^^^ t), not_is (u ^^^ t)]
  generalize (4294967295 : UInt32) = f
  rw [show v ^^^ t ^^^ f ^^^ (u ^^^ v) = (v ^^^ v) ^^^ (u ^^^ t ^^^ f) by ac_rfl, xor_self, zero_xor]
theorem crc_aff (a b c : List UInt8) (h1 : a.length = b.length) (h2 : a.length = c.length) : crc a ^^^ crc b ^^^ crc c = crc (xorL (xorL a b) c) := by
  unfold crc ext
  rw [n0]
  have e1 := feeds_xor a b 4294967295 4294967295 h1
  have e2 := feeds_xor (xorL a b) c (4294967295 ^^^ 4294967295) 4294967295 ((xorL_len a b h1).trans h2)
  rw [e1, xor_self, zero_xor] at e2
  rw [e2]
  generalize feeds 4294967295 a = p
  generalize feeds 4294967295 b = q
  generalize feeds 4294967295 c = t
  rw [not_is p, not_is q, not_is t, not_is (_ ^^^ _)]
  generalize (4294967295 : UInt32) = f
  rw [show p ^^^ f ^^^ (q ^^^ f) ^^^ (t ^^^ f) = (f ^^^ f) ^^^ (p ^^^ q ^^^ t ^^^ f) by ac_rfl, xor_self, zero_xor]
/-- A difference leaves the checksum alone only if it is fed to nothing. -/
theorem crc_diff (b e : List UInt8) (h : b.length = e.length) : crc (xorL b e) = crc b ↔ feeds 0 e = 0 := by
  have e1 := feeds_xor b e 4294967295 0 h
  rw [xor_zero] at e1
  unfold crc ext
  rw [n0, e1]
  generalize feeds 4294967295 b = p
  generalize feeds 0 e = q
  rw [not_is (p ^^^ q), not_is p]
  generalize (4294967295 : UInt32) = f
  constructor
  · intro hh
    have h2 : (p ^^^ q ^^^ f) ^^^ (p ^^^ f) = 0 := by rw [hh, xor_self]
    rw [show p ^^^ q ^^^ f ^^^ (p ^^^ f) = (p ^^^ p) ^^^ ((f ^^^ f) ^^^ q) by ac_rfl, xor_self, xor_self, zero_xor, zero_xor] at h2
    exact h2
  · intro hh
    rw [hh, xor_zero]

theorem shr1_nat (x : UInt32) : (shr x 1).toNat = x.toNat / 2 := by
  unfold shr
  rw [UInt32.toNat_shiftRight]
  show x.toNat >>> 1 = _
  rw [Nat.shiftRight_eq_div_pow]
theorem stp_zero (x : UInt32) (h : stp x = 0) : x = 0 := by
  unfold stp at h
  have hn := shr1_nat x
  have hlt := x.toNat_lt
  split at h
  · have h2 := xor_eq_zero h
    rw [h2] at hn
    have : P0.toNat = 2197175160 := rfl
    omega
  · rename_i h1
    rw [h] at hn
    have h0 : (0 : UInt32).toNat = 0 := rfl
    have h3 : x.toNat = 0 ∨ x.toNat = 1 := by omega
    rcases h3 with h3 | h3
    · exact UInt32.toNat_inj.1 h3
    · obtain rfl : x = 1 := UInt32.toNat_inj.1 h3
      exact absurd rfl h1
theorem itr_zero : ∀ (n : Nat) (x : UInt32), itr stp n x = 0 → x = 0
  | 0, _, h => h
  | n + 1, x, h => stp_zero x (itr_zero n _ h)
theorem itr_inj (n : Nat) (x y : UInt32) (h : itr stp n x = itr stp n y) : x = y := by
  apply xor_eq_zero
  apply itr_zero n
  rw [stp_lin.itr n, h, xor_self]
theorem zers_itr (r : UInt32) (n : Nat) : zers r n = itr stp (8 * n) r := by
  unfold zers
  rw [itr_mul]
  rfl
theorem zers_zero (n : Nat) : zers 0 n = 0 := (zers_lin n).zero
theorem feeds_pad (a b : Nat) (e : List UInt8) : feeds 0 (List.replicate a 0 ++ (e ++ List.replicate b 0)) = itr stp (8 * b) (feeds 0 e) := by
  rw [feeds_app, feeds_zeros, zers_zero, feeds_app, feeds_zeros, zers_itr]

theorem byte8 : ∀ x : Fin 256, itr stp 8 (shl (UInt8.ofNat x.val).toUInt32 8) = (UInt8.ofNat x.val).toUInt32 := by decide +kernel
theorem byte16 : ∀ x : Fin 256, itr stp 16 (shl (UInt8.ofNat x.val).toUInt32 16) = (UInt8.ofNat x.val).toUInt32 := by decide +kernel
theorem byte24 : ∀ x : Fin 256, itr stp 24 (shl (UInt8.ofNat x.val).toUInt32 24) = (UInt8.ofNat x.val).toUInt32 := by decide +kernel
theorem of_fin {p : UInt8 → Prop} (h : ∀ x : Fin 256, p (UInt8.ofNat x.val)) (x : UInt8) : p x := by
  have := h ⟨x.toNat, x.toNat_lt⟩
  simpa using this
theorem four (a b c d : UInt8) : feeds 0 [a, b, c, d] = itr stp 32 (a.toUInt32 ^^^ (shl b.toUInt32 8 ^^^ (shl c.toUInt32 16 ^^^ shl d.toUInt32 24))) := by
  have h1 := of_fin (p := fun x => itr stp 8 (shl x.toUInt32 8) = x.toUInt32) byte8 b
  have h2 := of_fin (p := fun x => itr stp 16 (shl x.toUInt32 16) = x.toUInt32) byte16 c
  have h3 := of_fin (p := fun x => itr stp 24 (shl x.toUInt32 24) = x.toUInt32) byte24 d
  show itr stp 8 (itr stp 8 (itr stp 8 (itr stp 8 (0 ^^^ a.toUInt32) ^^^ b.toUInt32) ^^^ c.toUInt32) ^^^ d.toUInt32) = _
  have e1 : itr stp 8 (0 ^^^ a.toUInt32) ^^^ b.toUInt32 = itr stp 8 (a.toUInt32 ^^^ shl b.toUInt32 8) := by rw [zero_xor, stp_lin.itr 8 _ (shl b.toUInt32 8), h1]
  have e2 : itr stp 8 (itr stp 8 (a.toUInt32 ^^^ shl b.toUInt32 8)) ^^^ c.toUInt32 = itr stp 16 (a.toUInt32 ^^^ (shl b.toUInt32 8 ^^^ shl c.toUInt32 16)) := by
    rw [← xor_assoc, stp_lin.itr 16 (_ ^^^ _), h2, ← itr_add]
  have e3 : itr stp 8 (itr stp 16 (a.toUInt32 ^^^ (shl b.toUInt32 8 ^^^ shl c.toUInt32 16))) ^^^ d.toUInt32 = itr stp 24 (a.toUInt32 ^^^ (shl b.toUInt32 8 ^^^ (shl c.toUInt32 16 ^^^ shl d.toUInt32 24))) := by
    rw [← itr_add, show a.toUInt32 ^^^ (shl b.toUInt32 8 ^^^ (shl c.toUInt32 16 ^^^ shl d.toUInt32 24)) = (a.toUInt32 ^^^ (shl b.toUInt32 8 ^^^ shl c.toUInt32 16)) ^^^ shl d.toUInt32 24 by rw [xor_assoc, xor_assoc],
      stp_lin.itr 24 _ (shl d.toUInt32 24), h3]
  rw [e1, e2, e3, ← itr_add]
theorem cut0_24 : ∀ x : Fin 256, shr (UInt8.ofNat x.val).toUInt32 24 = 0 := by decide +kernel
theorem cut8_24 : ∀ x : Fin 256, shr (shl (UInt8.ofNat x.val).toUInt32 8) 24 = 0 := by decide +kernel
theorem cut16_24 : ∀ x : Fin 256, shr (shl (UInt8.ofNat x.val).toUInt32 16) 24 = 0 := by decide +kernel
theorem cut24_24 : ∀ x : Fin 256, shr (shl (UInt8.ofNat x.val).toUInt32 24) 24 = 0 → UInt8.ofNat x.val = 0 := by decide +kernel
theorem cut0_16 : ∀ x : Fin 256, shr (UInt8.ofNat x.val).toUInt32 16 = 0 := by decide +kernel
theorem cut8_16 : ∀ x : Fin 256, shr (shl (UInt8.ofNat x.val).toUInt32 8) 16 = 0 := by decide +kernel
theorem cut16_16 : ∀ x : Fin 256, shr (shl (UInt8.ofNat x.val).toUInt32 16) 16 = 0 → UInt8.ofNat x.val = 0 := by decide +kernel
theorem cut0_8 : ∀ x : Fin 256, shr (UInt8.ofNat x.val).toUInt32 8 = 0 := by decide +kernel
theorem cut8_8 : ∀ x : Fin 256, shr (shl (UInt8.ofNat x.val).toUInt32 8) 8 = 0 → UInt8.ofNat x.val = 0 := by decide +kernel
theorem cut0_0 : ∀ x : Fin 256, (UInt8.ofNat x.val).toUInt32 = 0 → UInt8.ofNat x.val = 0 := by decide +kernel
theorem four_zero (a b c d : UInt8) (h : feeds 0 [a, b, c, d] = 0) : a = 0 ∧ b = 0 ∧ c = 0 ∧ d = 0 := by
  rw [four] at h
  have h1 := itr_zero 32 _ h
  have hs : ∀ n, shr 0 n = 0 := fun n => by unfold shr; simp
  have hz : shl (0 : UInt8).toUInt32 24 = 0 ∧ shl (0 : UInt8).toUInt32 16 = 0 ∧ shl (0 : UInt8).toUInt32 8 = 0 := by decide
  have hd : d = 0 := by
    have h2 := congrArg (fun q => shr q 24) h1
    simp only [shr_xor] at h2
    rw [of_fin (p := fun x => shr x.toUInt32 24 = 0) cut0_24 a, of_fin (p := fun x => shr (shl x.toUInt32 8) 24 = 0) cut8_24 b, of_fin (p := fun x => shr (shl x.toUInt32 16) 24 = 0) cut16_24 c, zero_xor, zero_xor, zero_xor, hs] at h2
    exact of_fin (p := fun x => shr (shl x.toUInt32 24) 24 = 0 → x = 0) cut24_24 d h2
  subst hd
  rw [hz.1, xor_zero] at h1
  have hc : c = 0 := by
    have h2 := congrArg (fun q => shr q 16) h1
    simp only [shr_xor] at h2
    rw [of_fin (p := fun x => shr x.toUInt32 16 = 0) cut0_16 a, of_fin (p := fun x => shr (shl x.toUInt32 8) 16 = 0) cut8_16 b, zero_xor, zero_xor, hs] at h2
    exact of_fin (p := fun x => shr (shl x.toUInt32 16) 16 = 0 → x = 0) cut16_16 c h2
  subst hc
  rw [hz.2.1, xor_zero] at h1
  have hb : b = 0 := by
    have h2 := congrArg (fun q => shr q 8) h1
    simp only [shr_xor] at h2
    rw [of_fin (p := fun x => shr x.toUInt32 8 = 0) cut0_8 a, zero_xor, hs] at h2
    exact of_fin (p := fun x => shr (shl x.toUInt32 8) 8 = 0 → x = 0) cut8_8 b h2
  subst hb
  rw [hz.2.2, xor_zero] at h1
  exact ⟨of_fin (p := fun x => x.toUInt32 = 0 → x = 0) cut0_0 a h1, rfl, rfl, rfl⟩
/-- Four adjacent bytes. -/
theorem burst (b : List UInt8) (k m : Nat) (w x y z : UInt8) (hl : b.length = k + 4 + m) (h : ¬ (w = 0 ∧ x = 0 ∧ y = 0 ∧ z = 0)) : crc (xorL b (List.replicate k 0 ++ ([w, x, y, z] ++ List.replicate m 0))) ≠ crc b := by
  intro he
  rw [crc_diff _ _ (by simp; omega), feeds_pad] at he
  exact h (four_zero _ _ _ _ (itr_zero _ _ he))

/-- The parity of a register. -/
def par (r : UInt32) : UInt32 :=
  let a := r ^^^ shr r 16
  let b := a ^^^ shr a 8
  let c := b ^^^ shr b 4
  let d := c ^^^ shr c 2
  (d ^^^ shr d 1) &&& 1
theorem fold_lin (n : Nat) : Lin (fun r => r ^^^ shr r n) := fun a b => by
  show (a ^^^ b) ^^^ shr (a ^^^ b) n = (a ^^^ shr a n) ^^^ (b ^^^ shr b n)
  rw [shr_xor, xor_assoc, xor_assoc, xor_left b]
theorem par_lin : Lin par := fun a b => by
  unfold par
  simp only [fun n a b => show (a ^^^ b) ^^^ shr (a ^^^ b) n = (a ^^^ shr a n) ^^^ (b ^^^ shr b n) from fold_lin n a b]
  exact and_xor _ _ _
theorem par_stp (r : UInt32) : par (stp r) = par r :=
  lin_ext (par_lin.comp stp_lin) par_lin (fun i hi => (by decide +kernel : ∀ i : Fin 32, par (stp (shl 1 i.val)) = par (shl 1 i.val)) ⟨i, hi⟩) r
theorem par_itr : ∀ (n : Nat) (r : UInt32), par (itr stp n r) = par r
  | 0, _ => rfl
  | n + 1, r => by rw [show itr stp (n + 1) r = itr stp n (stp r) from rfl, par_itr n, par_stp]
theorem par_one : par 1 = 1 := by decide +kernel
/-- What a register that begins with 1 is not again. -/
def chk : Nat → UInt32 → Bool
  | 0, _ => true
  | n + 1, r => (r != 1) && chk n (stp r)
theorem chk_spec : ∀ (n : Nat) (r : UInt32), chk n r = true → ∀ i, i < n → itr stp i r ≠ 1
  | 0, _, _, i, hi => by omega
  | n + 1, r, h, i, hi => by
    unfold chk at h
    rw [Bool.and_eq_true, bne_iff_ne] at h
    cases i with
    | zero => exact h.1
    | succ i => exact chk_spec n _ h.2 i (by omega)
theorem chk_512 : chk 512 (stp 1) = true := by decide +kernel
theorem two_bits (a b : Nat) (hab : a < b) (hb : b ≤ 512) : itr stp a 1 ^^^ itr stp b 1 ≠ 0 := by
  intro h
  have h1 := xor_eq_zero h
  rw [show b = (b - a) + a by omega, itr_add] at h1
  have h2 := itr_inj a _ _ h1
  have h3 := chk_spec 512 _ chk_512 (b - a - 1) (by omega)
  apply h3
  rw [← show itr stp (b - a - 1 + 1) 1 = itr stp (b - a - 1) (stp 1) from rfl, show b - a - 1 + 1 = b - a by omega]
  exact h2.symm
theorem bit_up : ∀ j : Fin 8, itr stp j.val (UInt8.ofNat (2 ^ j.val)).toUInt32 = 1 := by decide +kernel
/-- One bit's difference. -/
def bitE (n x : Nat) : List UInt8 := List.replicate (x / 8) 0 ++ ([UInt8.ofNat (2 ^ (x % 8))] ++ List.replicate (n - (x / 8 + 1)) 0)
theorem bitE_len (n x : Nat) (h : x < 8 * n) : (bitE n x).length = n := by
  unfold bitE
  simp only [List.length_append, List.length_replicate, List.length_cons, List.length_nil]
  omega
theorem feeds_bit (n x : Nat) (h : x < 8 * n) : feeds 0 (bitE n x) = itr stp (8 * n - x) 1 := by
  unfold bitE
  rw [feeds_pad]
  show itr stp _ (itr stp 8 (0 ^^^ _)) = _
  have h1 := bit_up ⟨x % 8, Nat.mod_lt _ (by decide)⟩
  simp only at h1
  have h8 : ∀ y, itr stp 8 y = itr stp (8 - x % 8) (itr stp (x % 8) y) := fun y => by
    rw [← itr_add, show x % 8 + (8 - x % 8) = 8 by omega]
  rw [zero_xor, h8, h1, ← itr_add, show 8 - x % 8 + 8 * (n - (x / 8 + 1)) = 8 * n - x by omega]
theorem one_bit (b : List UInt8) (x : Nat) (hx : x < 8 * b.length) : crc (xorL b (bitE b.length x)) ≠ crc b := by
  intro h
  rw [crc_diff _ _ (bitE_len _ _ hx).symm, feeds_bit _ _ hx] at h
  have := congrArg par h
  rw [par_itr, par_one] at this
  exact absurd this (by decide)
theorem xor3 (b d e f : List UInt8) (r : UInt32) (h1 : b.length = d.length) (h2 : b.length = e.length) (h3 : b.length = f.length) : crc (xorL (xorL (xorL b d) e) f) = crc b ↔ feeds 0 d ^^^ feeds 0 e ^^^ feeds 0 f = 0 := by
  have hde := feeds_xor d e 0 0 (h1.symm.trans h2)
  have hl : (xorL d e).length = b.length := (xorL_len d e (h1.symm.trans h2)).trans h1.symm
  have hdef := feeds_xor (xorL d e) f 0 0 (hl.trans h3)
  have assoc : ∀ (a b c : List UInt8), xorL (xorL a b) c = xorL a (xorL b c) := by
    intro a
    induction a with
    | nil => intro b c; rfl
    | cons x a ih =>
      intro b c
      cases b with
      | nil => rfl
      | cons y b =>
        cases c with
        | nil => rfl
        | cons z c =>
          show (x ^^^ y ^^^ z) :: xorL (xorL a b) c = (x ^^^ (y ^^^ z)) :: xorL a (xorL b c)
          rw [ih, UInt8.xor_assoc]
  rw [xor_zero] at hde hdef
  rw [assoc, assoc, ← assoc d e f, crc_diff _ _ (by rw [xorL_len _ _ (hl.trans h3), hl]), hdef, hde]
theorem xor2 (b d e : List UInt8) (h1 : b.length = d.length) (h2 : b.length = e.length) : crc (xorL (xorL b d) e) = crc b ↔ feeds 0 d ^^^ feeds 0 e = 0 := by
  have h := xor3 b d e (List.replicate b.length 0) 0 h1 h2 (by simp)
  have hz : ∀ l : List UInt8, xorL l (List.replicate l.length 0) = l := by
    intro l
    induction l with
    | nil => rfl
    | cons x l ih =>
      show (x ^^^ 0) :: xorL l (List.replicate l.length 0) = _
      rw [ih, UInt8.xor_zero]
  have hl : b.length = (xorL (xorL b d) e).length := by rw [xorL_len _ _ ((xorL_len b d h1).trans h2), xorL_len b d h1]
  rw [show List.replicate b.length (0 : UInt8) = List.replicate (xorL (xorL b d) e).length 0 by rw [← hl], hz, feeds_zeros, zers_zero, xor_zero] at h
  exact h
theorem two_bit (b : List UInt8) (x y : Nat) (hb : b.length ≤ 64) (hx : x < 8 * b.length) (hy : y < 8 * b.length) (hne : x ≠ y) : crc (xorL (xorL b (bitE b.length x)) (bitE b.length y)) ≠ crc b := by
  intro h
  rw [xor2 _ _ _ (bitE_len _ _ hx).symm (bitE_len _ _ hy).symm, feeds_bit _ _ hx, feeds_bit _ _ hy] at h
  rcases Nat.lt_or_gt_of_ne hne with h1 | h1
  · exact two_bits (8 * b.length - y) (8 * b.length - x) (by omega) (by omega) (by rw [xor_comm]; exact h)
  · exact two_bits (8 * b.length - x) (8 * b.length - y) (by omega) (by omega) h
theorem three_bit (b : List UInt8) (x y z : Nat) (hx : x < 8 * b.length) (hy : y < 8 * b.length) (hz : z < 8 * b.length) : crc (xorL (xorL (xorL b (bitE b.length x)) (bitE b.length y)) (bitE b.length z)) ≠ crc b := by
  intro h
  rw [xor3 _ _ _ _ 0 (bitE_len _ _ hx).symm (bitE_len _ _ hy).symm (bitE_len _ _ hz).symm, feeds_bit _ _ hx, feeds_bit _ _ hy, feeds_bit _ _ hz] at h
  have := congrArg par h
  rw [par_lin, par_lin, par_itr, par_itr, par_itr, par_one] at this
  exact absurd this (by decide)

end Go.Proofs.YtbejmcndflmgaaaDoor
