/-
  The encoding of an integer, of a byte string and of lists, as plain functions on lists of bytes, and what is known of them. No program stands behind this text.
  bits.Len64 by its contract, and how many bytes a number takes.
-/
import Derived.Shelf.Strconv.Itoa0
import Derived.Test.YtkjnimcapjjfdaaDoorRows
import Derived.WalkKit
namespace Go.Proofs.YtkjnimcapjjfdaaDoor
set_option linter.unusedVariables false

/-- The digits of m in base 256, the most significant first, at most f of them. -/
def beF : Nat → Nat → List UInt8
  | 0, _ => []
  | f + 1, m => if m = 0 then [] else beF f (m / 256) ++ [UInt8.ofNat (m % 256)]
def be (m : Nat) : List UInt8 := beF 9 m

theorem beF_more : ∀ (f m : Nat), m < 256 ^ f → beF (f + 1) m = beF f m := by
  intro f
  induction f with
  | zero => intro m h; have : m = 0 := by simpa using h
            subst this; simp [beF]
  | succ f ih =>
    intro m h
    have h1 : m / 256 < 256 ^ f := by
      rw [Nat.pow_succ] at h
      omega
    show (if m = 0 then [] else beF (f + 1) (m / 256) ++ [UInt8.ofNat (m % 256)]) = (if m = 0 then [] else beF f (m / 256) ++ [UInt8.ofNat (m % 256)])
    rw [ih _ h1]
theorem be_zero : be 0 = [] := by simp [be, beF]
theorem be_step (m : Nat) (h0 : m ≠ 0) (h : m < 256 ^ 9) : be m = be (m / 256) ++ [UInt8.ofNat (m % 256)] := by
  unfold be
  have h1 : m / 256 < 256 ^ 8 := by
    have : (256 : Nat) ^ 9 = 256 ^ 8 * 256 := by rw [Nat.pow_succ]
    omega
  rw [beF_more 8 _ h1]
  show beF (8 + 1) m = _
  rw [beF, if_neg h0]
theorem beF_len : ∀ (f m : Nat), m < 256 ^ f → (beF f m).length ≤ f ∧ m < 256 ^ (beF f m).length ∧ (m ≠ 0 → 256 ^ (beF f m).length ≤ 256 * m) := by
  intro f
  induction f with
  | zero => intro m h; have : m = 0 := by simpa using h
            subst this; simp [beF]
  | succ f ih =>
    intro m h
    have h1 : m / 256 < 256 ^ f := by
      rw [Nat.pow_succ] at h
      omega
    obtain ⟨a, b, c⟩ := ih _ h1
    rw [beF]
    split
    · next h0 => subst h0; simp
    · next h0 =>
      simp only [List.length_append, List.length_singleton]
      refine ⟨by omega, ?_, fun _ => ?_⟩
      · rw [Nat.pow_succ]; omega
      · rw [Nat.pow_succ]
        by_cases hm : m / 256 = 0
        · rw [hm] 
          have : beF f 0 = [] := by cases f <;> simp [beF]
          rw [this]; simp; omega
        · have := c hm
          have h3 : 256 * (m / 256) ≤ m := Nat.mul_div_le m 256
          omega
theorem be_len (m : Nat) (h : m < 256 ^ 9) : m < 256 ^ (be m).length ∧ (m ≠ 0 → 256 ^ (be m).length ≤ 256 * m) := (beF_len 9 m h).2
theorem pow_256 (a b : Nat) (h : 256 ^ a < 256 ^ b) : a < b := (Nat.pow_lt_pow_iff_right (by omega)).1 h
theorem be_le (m k : Nat) (h : m < 256 ^ k) (hk : k ≤ 9) : (be m).length ≤ k := by
  have h9 : m < 256 ^ 9 := Nat.lt_of_lt_of_le h (Nat.pow_le_pow_right (by omega) hk)
  obtain ⟨_, h2⟩ := be_len m h9
  by_cases h0 : m = 0
  · subst h0; rw [be_zero]; simp
  · have := h2 h0
    have : 256 ^ (be m).length < 256 ^ (k + 1) := by rw [Nat.pow_succ]; omega
    have := pow_256 _ _ this
    omega

/-- The number that digits denote. -/
def num (l : List UInt8) : Nat := l.foldl (fun m d => m * 256 + d.toNat) 0
theorem num_snoc (l : List UInt8) (d : UInt8) : num (l ++ [d]) = num l * 256 + d.toNat := by simp [num]
theorem num_nil : num [] = 0 := rfl
theorem snoc_ind {α : Type} {P : List α → Prop} (h0 : P []) (h1 : ∀ l a, P l → P (l ++ [a])) (l : List α) : P l := by
  rw [← List.reverse_reverse l]
  induction l.reverse with
  | nil => exact h0
  | cons a r ih => rw [List.reverse_cons]; exact h1 _ _ ih
theorem num_lt (l : List UInt8) : num l < 256 ^ l.length := by
  induction l using snoc_ind with
  | h0 => simp [num]
  | h1 l d ih =>
    rw [num_snoc, List.length_append, List.length_singleton, Nat.pow_succ]
    have := d.toNat_lt
    omega

/-- The magnitude of an integer, what its digits become, and its first byte. -/
def mag (n : Int) : Nat := if n < 0 then (-1 - n).toNat else n.toNat
def flip (n : Int) (b : UInt8) : UInt8 := if n < 0 then 255 - b else b
def lead (n : Int) (k : Nat) : UInt8 := if n < 0 then UInt8.ofNat (127 - k) else UInt8.ofNat (128 + k)
/-- The encoding of an integer. -/
def enc (n : Int) : List UInt8 := lead n (be (mag n)).length :: (be (mag n)).map (flip n)

theorem mag_lt (n : Int) (h : -9223372036854775808 ≤ n) (h' : n ≤ 9223372036854775807) : mag n < 9223372036854775808 := by
  unfold mag; split <;> omega
theorem be_mag_le (n : Int) (h : -9223372036854775808 ≤ n) (h' : n ≤ 9223372036854775807) : (be (mag n)).length ≤ 8 :=
  be_le _ 8 (Nat.lt_trans (mag_lt n h h') (by decide)) (by omega)
theorem enc_len (n : Int) : (enc n).length = (be (mag n)).length + 1 := by simp [enc]

/-- Decoding an integer: the integer, how many bytes it takes, the error's number. -/
def dsz (h : UInt8) : Nat := if h.toNat < 128 then 127 - h.toNat else h.toNat - 128
def dfl (h : UInt8) (b : UInt8) : UInt8 := if h.toNat < 128 then 255 - b else b
def dnum (h : UInt8) (t : List UInt8) : Nat := num ((t.take (dsz h)).map (dfl h))
def dec : List UInt8 → Int × Nat × Nat
  | [] => (0, 0, 5)
  | h :: t =>
    if 8 < dsz h then (0, 0, 6) else if t.length < dsz h then (0, 0, 5)
    else if dsz h ≠ (be (dnum h t)).length ∨ 9223372036854775807 < dnum h t then (0, 0, 6)
    else (if h.toNat < 128 then -1 - (dnum h t : Int) else (dnum h t : Int), 1 + dsz h, 0)

theorem dec_cons (h : UInt8) (t : List UInt8) : dec (h :: t) = if 8 < dsz h then (0, 0, 6) else if t.length < dsz h then (0, 0, 5)
    else if dsz h ≠ (be (dnum h t)).length ∨ 9223372036854775807 < dnum h t then (0, 0, 6)
    else (if h.toNat < 128 then -1 - (dnum h t : Int) else (dnum h t : Int), 1 + dsz h, 0) := rfl

/-- The encodings of a byte string and of lists. -/
def encB (s : List UInt8) : List UInt8 := enc (s.length : Int) ++ s
def encI (l : List Int) : List UInt8 := enc (l.length : Int) ++ l.flatMap enc
def encD (l : List (List UInt8)) : List UInt8 := enc (l.length : Int) ++ l.flatten

theorem enc_le (n : Int) (h : -9223372036854775808 ≤ n) (h' : n ≤ 9223372036854775807) : (enc n).length ≤ 9 := by
  have := be_mag_le n h h'
  rw [enc_len]; omega
theorem flat_le : ∀ l : List Int, (∀ n ∈ l, -9223372036854775808 ≤ n ∧ n ≤ 9223372036854775807) → (l.flatMap enc).length ≤ 9 * l.length
  | [], _ => by simp
  | n :: r, h => by
    have h1 := enc_le n (h n (by simp)).1 (h n (by simp)).2
    have h2 := flat_le r fun x hx => h x (by simp [hx])
    simp only [List.flatMap_cons, List.length_append, List.length_cons]
    omega

/-- Decoding a length, a byte string, lists. -/
def decLen (size : Nat) (l : List UInt8) : Nat × Nat × Nat :=
  if (dec l).2.2 ≠ 0 then (0, 0, (dec l).2.2) else if (dec l).1 < 0 then (0, 0, 6)
  else if (l.length - (dec l).2.1) / size < (dec l).1.toNat then (0, 0, 5) else ((dec l).1.toNat, (dec l).2.1, 0)
def decB (l : List UInt8) : List UInt8 × Nat × Nat :=
  if (decLen 1 l).2.2 ≠ 0 then ([], 0, (decLen 1 l).2.2) else ((l.drop (decLen 1 l).2.1).take (decLen 1 l).1, (decLen 1 l).2.1 + (decLen 1 l).1, 0)
def glue {α : Type} (xs : List α) (r : List α × Nat × Nat) : List α × Nat × Nat := if r.2.2 ≠ 0 then ([], 0, r.2.2) else (xs ++ r.1, r.2.1, 0)
def decIs (l : List UInt8) : Nat → Nat → List Int × Nat × Nat
  | 0, i => ([], i, 0)
  | n + 1, i => if (dec (l.drop i)).2.2 ≠ 0 then ([], 0, (dec (l.drop i)).2.2) else glue [(dec (l.drop i)).1] (decIs l n (i + (dec (l.drop i)).2.1))
def decI (l : List UInt8) : List Int × Nat × Nat :=
  if (decLen 1 l).2.2 ≠ 0 then ([], 0, (decLen 1 l).2.2) else decIs l (decLen 1 l).1 (decLen 1 l).2.1
def cut16 (l : List UInt8) : Nat → List (List UInt8)
  | 0 => []
  | n + 1 => cut16 l n ++ [(l.drop (n * 16)).take 16]
def decD (l : List UInt8) : List (List UInt8) × Nat × Nat :=
  if (decLen 16 l).2.2 ≠ 0 then ([], 0, (decLen 16 l).2.2) else (cut16 (l.drop (decLen 16 l).2.1) (decLen 16 l).1, (decLen 16 l).2.1 + 16 * (decLen 16 l).1, 0)

theorem dec_ok (l : List UInt8) (h : (dec l).2.2 = 0) :
    1 ≤ (dec l).2.1 ∧ (dec l).2.1 ≤ 9 ∧ (dec l).2.1 ≤ l.length ∧ -9223372036854775808 ≤ (dec l).1 ∧ (dec l).1 ≤ 9223372036854775807 := by
  cases l with
  | nil => simp [dec] at h
  | cons a t =>
    rw [dec_cons] at h ⊢
    by_cases h1 : 8 < dsz a
    · rw [if_pos h1] at h; simp at h
    · rw [if_neg h1] at h ⊢
      by_cases h2 : t.length < dsz a
      · rw [if_pos h2] at h; simp at h
      · rw [if_neg h2] at h ⊢
        by_cases h3 : dsz a ≠ (be (dnum a t)).length ∨ 9223372036854775807 < dnum a t
        · rw [if_pos h3] at h; simp at h
        · rw [if_neg h3]
          simp only [List.length_cons]
          refine ⟨by omega, by omega, by omega, ?_, ?_⟩ <;> split <;> omega
theorem dec_bad (l : List UInt8) (h : (dec l).2.2 ≠ 0) : (dec l).1 = 0 ∧ (dec l).2.1 = 0 ∧ ((dec l).2.2 = 5 ∨ (dec l).2.2 = 6) := by
  cases l with
  | nil => simp [dec]
  | cons a t =>
    rw [dec_cons] at h ⊢
    by_cases h1 : 8 < dsz a
    · rw [if_pos h1]; simp
    · rw [if_neg h1] at h ⊢
      by_cases h2 : t.length < dsz a
      · rw [if_pos h2]; simp
      · rw [if_neg h2] at h ⊢
        by_cases h3 : dsz a ≠ (be (dnum a t)).length ∨ 9223372036854775807 < dnum a t
        · rw [if_pos h3]; simp
        · rw [if_neg h3] at h; simp at h

open Go.Shelf
def lenRen : Go.Shelf.Ren := ⟨fun | 129 => 66 | n => n, fun | 53 => 88 | 3 => 3 | 4 => 4 | 46 => 64 | 5 => 5 | 9 => 9 | n => n, fun | n => n⟩
theorem lenLays : Go.Proofs.Lays.n129 Tryd.prog lenRen := {
  mixed := by kernel_rfl
  f129 := Tryd.func66.trans (congrArg some (by kernel_rfl))
  t3 := Tryd.underlying3
  a3 := Tryd.isAgg3
  z3 := Tryd.sizeOf3
  v3 := Tryd.zeroValue3
  t4 := Tryd.underlying4
  a4 := Tryd.isAgg4
  z4 := Tryd.sizeOf4
  v4 := Tryd.zeroValue4
  t5 := Tryd.underlying5
  a5 := Tryd.isAgg5
  z5 := Tryd.sizeOf5
  v5 := Tryd.zeroValue5
  t9 := Tryd.underlying9
  a9 := Tryd.isAgg9
  z9 := Tryd.sizeOf9
  v9 := Tryd.zeroValue9
  t46 := Tryd.underlying64
  a46 := Tryd.isAgg64
  z46 := Tryd.sizeOf64
  v46 := Tryd.zeroValue64
  t53 := Tryd.underlying88
  a53 := Tryd.isAgg88
  z53 := Tryd.sizeOf88
  v53 := Tryd.zeroValue88 }

theorem bytes_bits : ∀ m : Nat, m < 18446744073709551616 → (Lib.bitLen m + 7) / 8 = (be m).length := by
  intro m
  induction m using Nat.strongRecOn with
  | ind m ih =>
    intro h
    by_cases h0 : m = 0
    · subst h0; rw [be_zero]; decide +kernel
    · rw [be_step m h0 (Nat.lt_trans h (by decide)), List.length_append, List.length_singleton]
      by_cases h1 : 256 ≤ m
      · rw [Lib.bitLen_shift8 m h1 h, ← ih (m / 256) (by omega) (by omega)]
        omega
      · have hz : m / 256 = 0 := by omega
        rw [hz, be_zero]
        have h2 : Lib.bitLen m ≤ 8 := Lib.bitLen_le m 8 (by omega) (by omega)
        have h3 := Lib.bitLen_half m h0 (by omega)
        simp only [List.length_nil]
        omega

theorem len64_any (m : Nat) (h : m < 18446744073709551616) (w : World) :
    Calls Tryd.prog 66 #[.int .u64 (m : Int)] w fun e w' => ∃ q : Nat, e = .returned (.int .i64 (q : Int)) ∧ q ≤ 64 ∧ (q + 7) / 8 = (be m).length ∧ w = w' := by
  refine (Any.bits_Len64 lenLays (m : Int) w (by omega) (by omega)).mono ?_
  rintro e w' ⟨rfl, rfl⟩
  exact ⟨_, rfl, by rw [Int.toNat_natCast]; exact Lib.bitLen_le m 64 (Nat.le_refl _) h, by rw [Int.toNat_natCast]; exact bytes_bits m h, rfl⟩

theorem xor_255 (d : UInt8) : d.toNat ^^^ 255 = (255 - d).toNat := by
  have h : ∀ x : Fin 256, x.val ^^^ 255 = 255 - x.val := by decide +kernel
  have h1 := h ⟨d.toNat, d.toNat_lt⟩
  rw [UInt8.toNat_sub_of_le _ _ (by rw [UInt8.le_iff_toNat_le]; have := d.toNat_lt; simp; omega)]
  simpa using h1
theorem wrap_u64 (n : Nat) (h : n < 18446744073709551616) : IntKind.u64.wrap (n : Int) = n := by
  simp [IntKind.wrap, IntKind.signed, IntKind.bits]; omega
theorem or_256 (q e : Nat) (he : e < 256) : q * 256 ||| e = q * 256 + e := by
  have := Nat.shiftLeft_add_eq_or_of_lt (i := 8) (b := e) he q
  rw [Nat.shiftLeft_eq] at this
  exact this.symm
theorem or_byte (q e : Nat) (hq : q < 72057594037927936) (he : e < 256) : bits .or .u64 ((q : Int) * 256) (IntKind.u64.wrap (e : Int)) = ((q * 256 + e : Nat) : Int) := by
  have e1 : ((q : Int) * 256) = ((q * 256 : Nat) : Int) := by omega
  rw [e1, wrap_u64 _ (by omega), u64_or_nat _ _ (by omega) (by omega), or_256 _ _ he]
theorem or_flip (q : Nat) (d : UInt8) (hq : q < 72057594037927936) :
    bits .or .u64 ((q : Int) * 256) (IntKind.u64.wrap (bits .xor .u8 (d.toNat : Int) 255)) = ((q * 256 + (255 - d).toNat : Nat) : Int) := by
  have e1 : bits .xor .u8 (d.toNat : Int) 255 = ((d.toNat ^^^ 255 : Nat) : Int) := u8_xor_nat d.toNat 255 d.toNat_lt (by omega)
  rw [e1, xor_255, or_byte q _ hq (UInt8.toNat_lt _)]
theorem or_plain (q : Nat) (d : UInt8) (hq : q < 72057594037927936) :
    bits .or .u64 ((q : Int) * 256) (IntKind.u64.wrap (bits .xor .u8 (d.toNat : Int) 0)) = ((q * 256 + d.toNat : Nat) : Int) := by
  have e1 : bits .xor .u8 (d.toNat : Int) 0 = ((d.toNat ^^^ 0 : Nat) : Int) := u8_xor_nat d.toNat 0 d.toNat_lt (by omega)
  rw [e1, Nat.xor_zero, or_byte q _ hq d.toNat_lt]

end Go.Proofs.YtkjnimcapjjfdaaDoor
