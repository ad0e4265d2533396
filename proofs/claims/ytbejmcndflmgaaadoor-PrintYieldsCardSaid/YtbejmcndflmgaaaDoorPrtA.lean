/-
  Twins of a string, as plain mathematics: a multiple of the checksum's polynomial leaves the checksum alone. No program stands behind this text.
-/
import Derived.Test.YtbejmcndflmgaaaDoorCrcQ
namespace Go.Proofs.YtbejmcndflmgaaaDoor
open Go.RowKit
set_option linter.unusedVariables false

/-- The exponents of the polynomial. -/
def gs : List Nat := [0, 6, 8, 9, 10, 11, 13, 14, 18, 19, 20, 22, 23, 25, 26, 27, 28, 32]
def sumG (f : Nat → UInt32) : List Nat → UInt32
  | [] => 0
  | g :: l => f g ^^^ sumG f l
theorem gs_zero : sumG (fun g => itr stp g 1) gs = 0 := by decide +kernel
theorem itr_none (n : Nat) : itr stp n 0 = 0 := (stp_lin.itr n).zero
theorem sumG_itr (m : Nat) : ∀ l, sumG (fun g => itr stp (g + m) 1) l = itr stp m (sumG (fun g => itr stp g 1) l)
  | [] => (itr_none m).symm
  | g :: l => by
    rw [sumG, sumG, sumG_itr m l, stp_lin.itr m, itr_add]
/-- The bits at k + 32 - g, one after the other. -/
def twinE (n k : Nat) (u : List UInt8) : List Nat → List UInt8
  | [] => u
  | g :: l => twinE n k (xorL u (bitE n (k + 32 - g))) l
theorem twinE_len (n k : Nat) (hk : k + 32 < 8 * n) : ∀ (l : List Nat) (u : List UInt8), u.length = n → (twinE n k u l).length = n
  | [], u, h => h
  | g :: l, u, h => by
    rw [twinE]
    exact twinE_len n k hk l _ (by rw [xorL_len _ _ (by rw [bitE_len _ _ (by omega), h])]; exact h)
/-- What the changes are fed to. -/
theorem feeds_twin (n k : Nat) (hk : k + 32 < 8 * n) : ∀ (l : List Nat) (u : List UInt8) (r : UInt32), u.length = n → (∀ g ∈ l, g ≤ 32) →
    feeds r (twinE n k u l) = feeds r u ^^^ sumG (fun g => itr stp (g + (8 * n - k - 32)) 1) l
  | [], u, r, _, _ => by rw [sumG, xor_zero]; rfl
  | g :: l, u, r, h, hg => by
    have hb := hg g (by simp)
    have hx : k + 32 - g < 8 * n := by omega
    have hl : u.length = (bitE n (k + 32 - g)).length := by rw [bitE_len _ _ hx, h]
    rw [twinE, feeds_twin n k hk l _ r (by rw [xorL_len _ _ hl]; exact h) (fun x hx => hg x (by simp [hx]))]
    have h2 := feeds_xor u (bitE n (k + 32 - g)) r 0 hl
    rw [xor_zero] at h2
    rw [h2, feeds_bit _ _ hx, sumG, xor_assoc, show 8 * n - (k + 32 - g) = g + (8 * n - k - 32) by omega]
/-- The k-th twin. -/
def twin (u : List UInt8) (k : Nat) : List UInt8 := twinE u.length k u gs
theorem twin_crc (u : List UInt8) (k : Nat) (hk : k + 32 < 8 * u.length) : crc (twin u k) = crc u := by
  unfold crc ext twin
  rw [feeds_twin u.length k hk gs u _ rfl (by decide), sumG_itr, gs_zero, itr_none, xor_zero]
theorem twin_len (u : List UInt8) (k : Nat) (hk : k + 32 < 8 * u.length) : (twin u k).length = u.length := twinE_len _ _ hk _ _ rfl

/-- Bit i of a string. -/
def bitAt (l : List UInt8) (i : Nat) : Bool := (l.getD (i / 8) 0).toNat.testBit (i % 8)
theorem xorL_get (a b : List UInt8) (h : a.length = b.length) (i : Nat) : (xorL a b).getD i 0 = a.getD i 0 ^^^ b.getD i 0 := by
  have hl : (xorL a b).length = a.length := xorL_len a b h
  simp only [List.getD_eq_getElem?_getD]
  by_cases hi : i < a.length
  · have hj : i < b.length := by omega
    have hk : i < (xorL a b).length := by omega
    rw [List.getElem?_eq_getElem hi, List.getElem?_eq_getElem hj, List.getElem?_eq_getElem hk]
    simp [xorL]
  · have hj : b.length ≤ i := by omega
    have hk : (xorL a b).length ≤ i := by omega
    have hi2 : a.length ≤ i := by omega
    rw [List.getElem?_eq_none hi2, List.getElem?_eq_none hj, List.getElem?_eq_none hk]
    rfl
theorem bit_xor (a b : List UInt8) (h : a.length = b.length) (i : Nat) : bitAt (xorL a b) i = (bitAt a i ^^ bitAt b i) := by
  unfold bitAt
  rw [xorL_get a b h, UInt8.toNat_xor, Nat.testBit_xor]
theorem bit_one (n x i : Nat) (hx : x < 8 * n) : bitAt (bitE n x) i = decide (i = x) := by
  unfold bitAt bitE
  simp only [List.getD_eq_getElem?_getD]
  by_cases h : i / 8 = x / 8
  · rw [List.getElem?_append_right (by rw [List.length_replicate]; omega), List.length_replicate, h, Nat.sub_self]
    have h2 : ∀ (r s : Fin 8), (UInt8.ofNat (2 ^ r.val)).toNat.testBit s.val = decide (s.val = r.val) := by decide +kernel
    have h3 := h2 ⟨x % 8, Nat.mod_lt _ (by decide)⟩ ⟨i % 8, Nat.mod_lt _ (by decide)⟩
    simp only at h3
    show (UInt8.ofNat (2 ^ (x % 8))).toNat.testBit (i % 8) = _
    rw [h3]
    by_cases hh : i = x
    · subst hh; simp
    · rw [decide_eq_false hh, decide_eq_false (by omega)]
  · rw [decide_eq_false (by omega)]
    have hz : (((List.replicate (x / 8) (0 : UInt8)) ++ ([UInt8.ofNat (2 ^ (x % 8))] ++ List.replicate (n - (x / 8 + 1)) 0))[i / 8]?).getD 0 = 0 := by
      by_cases h4 : i / 8 < x / 8
      · rw [List.getElem?_append_left (by rw [List.length_replicate]; exact h4), List.getElem?_replicate, if_pos h4]; rfl
      · rw [List.getElem?_append_right (by rw [List.length_replicate]; omega), List.length_replicate, List.getElem?_append_right (by show 1 ≤ _; omega), List.getElem?_replicate]
        split <;> rfl
    rw [hz]
    exact Nat.zero_testBit _
theorem bits_eq (a b : List UInt8) (h : a.length = b.length) (hb : ∀ i, bitAt a i = bitAt b i) : a = b := by
  apply List.ext_getElem h
  intro i hi hj
  apply UInt8.toNat_inj.1
  apply Nat.eq_of_testBit_eq
  intro s
  by_cases hs : s < 8
  · have h1 := hb (8 * i + s)
    unfold bitAt at h1
    rw [show (8 * i + s) / 8 = i by omega, show (8 * i + s) % 8 = s by omega] at h1
    simp only [List.getD_eq_getElem?_getD, List.getElem?_eq_getElem hi, List.getElem?_eq_getElem hj, Option.getD_some] at h1
    exact h1
  · have l1 := a[i].toNat_lt
    have l2 := b[i].toNat_lt
    have hp : 2 ^ 8 ≤ 2 ^ s := Nat.pow_le_pow_right (by decide) (by omega)
    rw [Nat.testBit_lt_two_pow (by omega), Nat.testBit_lt_two_pow (by omega)]
/-- Whether bit i is inverted, an odd number of times. -/
def inv (k i : Nat) : List Nat → Bool
  | [] => false
  | g :: l => (decide (i = k + 32 - g) ^^ inv k i l)
theorem bit_twin (n k i : Nat) (hk : k + 32 < 8 * n) : ∀ (l : List Nat) (u : List UInt8), u.length = n → bitAt (twinE n k u l) i = (bitAt u i ^^ inv k i l)
  | [], u, h => by rw [twinE, inv, Bool.xor_false]
  | g :: l, u, h => by
    have hx : k + 32 - g < 8 * n := by omega
    have hl : u.length = (bitE n (k + 32 - g)).length := by rw [bitE_len _ _ hx, h]
    rw [twinE, bit_twin n k i hk l _ (by rw [xorL_len _ _ hl]; exact h), bit_xor _ _ hl, bit_one _ _ _ hx, inv, Bool.xor_assoc]
theorem twin_bit (u : List UInt8) (k i : Nat) (hk : k + 32 < 8 * u.length) : bitAt (twin u k) i = (bitAt u i ^^ inv k i gs) := bit_twin _ k i hk _ u rfl
theorem twin_back (u : List UInt8) (k : Nat) (hk : k + 32 < 8 * u.length) : twin (twin u k) k = u := by
  have hl := twin_len u k hk
  apply bits_eq
  · rw [twin_len (twin u k) k (by rw [hl]; exact hk), hl]
  · intro i
    rw [twin_bit (twin u k) k i (by rw [hl]; exact hk), twin_bit u k i hk, Bool.xor_assoc, Bool.xor_self, Bool.xor_false]
theorem twin_swap (u : List UInt8) (k j : Nat) (hk : k + 32 < 8 * u.length) (hj : j + 32 < 8 * u.length) : twin (twin u k) j = twin (twin u j) k := by
  have hlk := twin_len u k hk
  have hlj := twin_len u j hj
  apply bits_eq
  · rw [twin_len (twin u k) j (by rw [hlk]; exact hj), twin_len (twin u j) k (by rw [hlj]; exact hk), hlk, hlj]
  · intro i
    rw [twin_bit (twin u k) j i (by rw [hlk]; exact hj), twin_bit u k i hk, twin_bit (twin u j) k i (by rw [hlj]; exact hk), twin_bit u j i hj, Bool.xor_assoc, Bool.xor_assoc, Bool.xor_comm (inv k i gs)]
theorem inv_top (k i : Nat) (hi : k + 32 < i) : ∀ l, inv k i l = false
  | [] => rfl
  | g :: l => by rw [inv, inv_top k i hi l, decide_eq_false (by omega)]; rfl
theorem inv_self (k : Nat) : inv k (k + 32) gs = true := by
  have h : ∀ l : List Nat, (∀ g ∈ l, 0 < g ∧ g ≤ 32) → inv k (k + 32) l = false := by
    intro l
    induction l with
    | nil => intro _; rfl
    | cons g l ih =>
      intro hg
      have := hg g (by simp)
      rw [inv, ih (fun x hx => hg x (by simp [hx])), decide_eq_false (by omega)]; rfl
  unfold gs
  rw [inv, h _ (by decide), decide_eq_true (by omega)]
  rfl
theorem twin_ne (u : List UInt8) (k : Nat) (hk : k + 32 < 8 * u.length) : twin u k ≠ u := fun h => by
  have h1 := twin_bit u k (k + 32) hk
  rw [h, inv_self, Bool.xor_true] at h1
  cases hb : bitAt u (k + 32) <;> rw [hb] at h1 <;> cases h1
theorem twin_inj (u : List UInt8) (k j : Nat) (hk : k + 32 < 8 * u.length) (hj : j + 32 < 8 * u.length) (h : twin u k = twin u j) : k = j := by
  have key : ∀ a b, a + 32 < 8 * u.length → b + 32 < 8 * u.length → a < b → twin u a ≠ twin u b := fun a b ha hb hab he => by
    have h1 := twin_bit u a (b + 32) ha
    have h2 := twin_bit u b (b + 32) hb
    rw [he, h2, inv_self, inv_top a (b + 32) (by omega), Bool.xor_true, Bool.xor_false] at h1
    cases hq : bitAt u (b + 32) <;> rw [hq] at h1 <;> cases h1
  rcases Nat.lt_trichotomy k j with h1 | h1 | h1
  · exact absurd h (key k j hk hj h1)
  · exact h1
  · exact absurd h.symm (key j k hj hk h1)

end Go.Proofs.YtbejmcndflmgaaaDoor
