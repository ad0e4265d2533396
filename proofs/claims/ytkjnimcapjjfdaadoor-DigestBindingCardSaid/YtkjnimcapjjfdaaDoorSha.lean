/-
  SHA-256 as plain functions on lists of bytes, and what is known of them. No program stands behind this text.
-/
import Derived.Test.YtkjnimcapjjfdaaDoorRot
namespace Go.Proofs.YtkjnimcapjjfdaaDoor
open Go.RowKit
set_option linter.unusedVariables false

def w4 (a b c d : UInt8) : UInt32 := shl a.toUInt32 24 ||| shl b.toUInt32 16 ||| shl c.toUInt32 8 ||| d.toUInt32
def sg0 (x : UInt32) : UInt32 := rot x 7 ^^^ rot x 18 ^^^ shr x 3
def sg1 (x : UInt32) : UInt32 := rot x 17 ^^^ rot x 19 ^^^ shr x 10
/-- The next word of the schedule. -/
def nextW (l : List UInt32) (t : Nat) : UInt32 := l.getD (t - 16) 0 + sg0 (l.getD (t - 15) 0) + l.getD (t - 7) 0 + sg1 (l.getD (t - 2) 0)
def readW (b : List UInt8) (t : Nat) : UInt32 := w4 (b.getD (4 * t) 0) (b.getD (4 * t + 1) 0) (b.getD (4 * t + 2) 0) (b.getD (4 * t + 3) 0)
def moreW (b : List UInt8) (t : Nat) (l : List UInt32) : List UInt32 := l ++ [if t < 16 then readW b t else nextW l t]
/-- The first t words of the schedule of a block. -/
def wl (b : List UInt8) : Nat → List UInt32
  | 0 => []
  | t + 1 => moreW b t (wl b t)
theorem wl_len (b : List UInt8) : ∀ t, (wl b t).length = t
  | 0 => rfl
  | t + 1 => by simp [wl, moreW, wl_len b t]
theorem wl_succ (b : List UInt8) (t : Nat) : wl b (t + 1) = wl b t ++ [if t < 16 then readW b t else nextW (wl b t) t] := rfl

structure St where
  a : UInt32
  b : UInt32
  c : UInt32
  d : UInt32
  e : UInt32
  f : UInt32
  g : UInt32
  h : UInt32
deriving DecidableEq
def St.list (s : St) : List UInt32 := [s.a, s.b, s.c, s.d, s.e, s.f, s.g, s.h]
def bs0 (x : UInt32) : UInt32 := rot x 2 ^^^ rot x 13 ^^^ rot x 22
def bs1 (x : UInt32) : UInt32 := rot x 6 ^^^ rot x 11 ^^^ rot x 25
def ch (e f g : UInt32) : UInt32 := (e &&& f) ^^^ (~~~ e &&& g)
def maj (a b c : UInt32) : UInt32 := (a &&& b) ^^^ (a &&& c) ^^^ (b &&& c)
def xx (s : St) (k w : UInt32) : UInt32 := s.h + bs1 s.e + ch s.e s.f s.g + k + w
def yy (s : St) : UInt32 := bs0 s.a + maj s.a s.b s.c
def St.step (s : St) (k w : UInt32) : St := ⟨xx s k w + yy s, s.a, s.b, s.c, s.d + xx s k w, s.e, s.f, s.g⟩
def St.add (s r : St) : St := ⟨s.a + r.a, s.b + r.b, s.c + r.c, s.d + r.d, s.e + r.e, s.f + r.f, s.g + r.g, s.h + r.h⟩
def kk : List UInt32 := [
  0x428a2f98, 0x71374491, 0xb5c0fbcf, 0xe9b5dba5, 0x3956c25b, 0x59f111f1, 0x923f82a4, 0xab1c5ed5,
  0xd807aa98, 0x12835b01, 0x243185be, 0x550c7dc3, 0x72be5d74, 0x80deb1fe, 0x9bdc06a7, 0xc19bf174,
  0xe49b69c1, 0xefbe4786, 0x0fc19dc6, 0x240ca1cc, 0x2de92c6f, 0x4a7484aa, 0x5cb0a9dc, 0x76f988da,
  0x983e5152, 0xa831c66d, 0xb00327c8, 0xbf597fc7, 0xc6e00bf3, 0xd5a79147, 0x06ca6351, 0x14292967,
  0x27b70a85, 0x2e1b2138, 0x4d2c6dfc, 0x53380d13, 0x650a7354, 0x766a0abb, 0x81c2c92e, 0x92722c85,
  0xa2bfe8a1, 0xa81a664b, 0xc24b8b70, 0xc76c51a3, 0xd192e819, 0xd6990624, 0xf40e3585, 0x106aa070,
  0x19a4c116, 0x1e376c08, 0x2748774c, 0x34b0bcb5, 0x391c0cb3, 0x4ed8aa4a, 0x5b9cca4f, 0x682e6ff3,
  0x748f82ee, 0x78a5636f, 0x84c87814, 0x8cc70208, 0x90befffa, 0xa4506ceb, 0xbef9a3f7, 0xc67178f2]
theorem kk_len : kk.length = 64 := rfl
/-- The state after t rounds. -/
def rnd (ws : List UInt32) (s : St) : Nat → St
  | 0 => s
  | t + 1 => (rnd ws s t).step (kk.getD t 0) (ws.getD t 0)
theorem rnd_succ (ws : List UInt32) (s : St) (t : Nat) : rnd ws s (t + 1) = (rnd ws s t).step (kk.getD t 0) (ws.getD t 0) := rfl
def comp (s : St) (b : List UInt8) : St := s.add (rnd (wl b 64) s 64)
/-- n blocks of a message. -/
def absorb : Nat → St → List UInt8 → St
  | 0, s, _ => s
  | n + 1, s, m => absorb n (comp s (m.take 64)) (m.drop 64)
def hv0 : St := ⟨0x6a09e667, 0xbb67ae85, 0x3c6ef372, 0xa54ff53a, 0x510e527f, 0x9b05688c, 0x1f83d9ab, 0x5be0cd19⟩
def w2b (w : UInt32) : List UInt8 := [(shr w 24).toUInt8, (shr w 16).toUInt8, (shr w 8).toUInt8, w.toUInt8]
def outB (s : St) : List UInt8 := s.list.flatMap w2b
theorem outB_len (s : St) : (outB s).length = 32 := rfl
def be8 (n : Nat) : List UInt8 := [UInt8.ofNat (n / 2 ^ 56), UInt8.ofNat (n / 2 ^ 48), UInt8.ofNat (n / 2 ^ 40), UInt8.ofNat (n / 2 ^ 32), UInt8.ofNat (n / 2 ^ 24), UInt8.ofNat (n / 2 ^ 16), UInt8.ofNat (n / 2 ^ 8), UInt8.ofNat n]
/-- How many zero bytes the padding has. -/
def zs (n : Nat) : Nat := (119 - n % 64) % 64
def pad (b : List UInt8) : List UInt8 := b ++ 128 :: (List.replicate (zs b.length) 0 ++ be8 (8 * b.length))
def sha (b : List UInt8) : List UInt8 := outB (absorb ((pad b).length / 64) hv0 (pad b))
theorem sha_len (b : List UInt8) : (sha b).length = 32 := outB_len _

theorem zs_mod (n : Nat) : (n + 1 + zs n) % 64 = 56 := by unfold zs; omega
theorem zs_lt (n : Nat) : zs n < 64 := by unfold zs; omega
theorem pad_len (b : List UInt8) : (pad b).length = b.length + 9 + zs b.length := by
  simp [pad, be8]; omega
theorem absorb_add (n k : Nat) : ∀ (s : St) (p q : List UInt8), p.length = 64 * n → absorb (n + k) s (p ++ q) = absorb k (absorb n s p) q := by
  induction n with
  | zero =>
    intro s p q h
    have : p = [] := List.length_eq_zero_iff.1 (by omega)
    subst this
    simp [absorb]
  | succ n ih =>
    intro s p q h
    rw [show n + 1 + k = (n + k) + 1 by omega, absorb, absorb, List.take_append_of_le_length (by omega), List.drop_append_of_le_length (by omega), ih _ _ _ (by rw [List.length_drop]; omega)]
/-- One block more. -/
theorem absorb_snoc (n : Nat) (s : St) (m : List UInt8) (h : 64 * (n + 1) ≤ m.length) : absorb (n + 1) s (m.take (64 * (n + 1))) = comp (absorb n s (m.take (64 * n))) ((m.drop (64 * n)).take 64) := by
  have h1 : m.take (64 * (n + 1)) = m.take (64 * n) ++ (m.drop (64 * n)).take 64 := by
    rw [show 64 * (n + 1) = 64 * n + 64 by omega, List.take_add]
  rw [h1, absorb_add n 1 _ _ _ (by rw [List.length_take]; omega), absorb, absorb]
  congr 1
  rw [List.take_take]; simp
/-- What the program makes of what is left of a message. -/
def ending (r : List UInt8) (n : Nat) : List UInt8 := r ++ 128 :: (List.replicate (zs r.length) 0 ++ be8 (8 * n))
theorem pad_split (b : List UInt8) (q : Nat) (h : 64 * q ≤ b.length) : pad b = b.take (64 * q) ++ ending (b.drop (64 * q)) b.length := by
  unfold pad ending
  rw [← List.append_assoc, List.take_append_drop]
  have : zs (b.drop (64 * q)).length = zs b.length := by rw [List.length_drop]; unfold zs; omega
  rw [this]
theorem sha_split (b : List UInt8) (q : Nat) (h : 64 * q ≤ b.length) :
    sha b = outB (absorb ((ending (b.drop (64 * q)) b.length).length / 64) (absorb q hv0 (b.take (64 * q))) (ending (b.drop (64 * q)) b.length)) := by
  have hl : (b.take (64 * q)).length = 64 * q := by rw [List.length_take]; omega
  unfold sha
  rw [pad_split b q h, ← absorb_add q _ _ _ _ hl, List.length_append, hl]
  congr 2
  omega
theorem ending_len (r : List UInt8) (n : Nat) (h : r.length < 64) : (ending r n).length = if 56 ≤ r.length then 128 else 64 := by
  simp only [ending, be8, List.length_append, List.length_cons, List.length_replicate, List.length_nil]
  unfold zs
  split <;> omega
theorem ending_mod (r : List UInt8) (n : Nat) : (ending r n).length % 64 = 0 := by
  simp only [ending, be8, List.length_append, List.length_cons, List.length_replicate, List.length_nil]
  unfold zs; omega
theorem pad_mod (b : List UInt8) : (pad b).length % 64 = 0 := by
  rw [pad_len]; unfold zs; omega

end Go.Proofs.YtkjnimcapjjfdaaDoor
