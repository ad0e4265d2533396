/-
  The examples that every statement plays first, walked: sanity.
-/
import Derived.Test.YticgbohkgjheaaaDecD
import Derived.Test.YticgbohkgjheaaaWList
import Derived.Test.YticgbohkgjheaaaSame
namespace Go.Proofs.Yticgbohkgjheaaa
open Go.RowKit
set_option linter.unusedVariables false

theorem lit_sl (w : World) (t : TypeId) (xs : List Value) (cs : Array Value) (hcs : cs = xs.toArray) (size n : Nat) (hn : xs.length = n * size) :
    Sl (w.alloc (.cells cs t)) (w.alloc (.cells cs t)).heap.size (some ⟨w.heap.size, 0, none⟩) size n xs := by
  subst hcs
  refine ⟨hn, fun _ => ⟨_, _, rfl, by simp, fun j u hu => ?_⟩⟩
  rw [Nat.zero_add, (Blk.new w t xs).cell]
  exact hu

theorem lit_getInt (w : World) (t : TypeId) (l : List UInt8) (cs : Array Value) (k : Nat) (hcs : cs = (l.map bv).toArray) (hk : l.length = k) (hl : l.length ≤ 1000) (n u e : Int) (hd : (dec l).1 = n ∧ ((dec l).2.1 : Int) = u ∧ ((dec l).2.2 : Int) = e) :
    Calls Try.prog 21 #[.slice (some ⟨w.heap.size, 0, none⟩) k k] (w.alloc (.cells cs t)) fun x w' => x = .returned (.tuple #[.int .i64 n, .int .i64 u, .int .i64 e]) ∧ Below w.heap.size w w' := by
  subst hk
  refine (getInt_any _ _ _ l _ (lit_sl w t (l.map bv) cs hcs 1 l.length (by simp)) (Nat.le_refl _) (by unfold maxLen; omega)).mono ?_
  rintro x w' ⟨rfl, rfl⟩
  exact ⟨by rw [← hd.1, ← hd.2.1, ← hd.2.2]; rfl, (Below.refl _ _).alloc (Nat.le_refl _) _⟩

theorem lit_getBytes (w : World) (t : TypeId) (l : List UInt8) (cs : Array Value) (k : Nat) (hcs : cs = (l.map bv).toArray) (hk : l.length = k) (hl : l.length ≤ 1000) (n : ByteArray) (u e : Int) (hd : (decB l).1.toArray = n.data ∧ ((decB l).2.1 : Int) = u ∧ ((decB l).2.2 : Int) = e) :
    Calls Try.prog 23 #[.slice (some ⟨w.heap.size, 0, none⟩) k k] (w.alloc (.cells cs t)) fun x w' => x = .returned (.tuple #[.string n, .int .i64 u, .int .i64 e]) ∧ Below w.heap.size w w' := by
  subst hk
  refine (getBytes_any _ _ _ l _ (lit_sl w t (l.map bv) cs hcs 1 l.length (by simp)) (Nat.le_refl _) (by unfold maxLen; omega)).mono ?_
  rintro x w' ⟨rfl, rfl⟩
  refine ⟨?_, (Below.refl _ _).alloc (Nat.le_refl _) _⟩
  unfold byV
  rw [← hd.2.1, ← hd.2.2, hd.1]

theorem lit_getInts (w : World) (t : TypeId) (l : List UInt8) (cs : Array Value) (k : Nat) (hcs : cs = (l.map bv).toArray) (hk : l.length = k) (hl : l.length ≤ 1000) (ns : List Int) (u e : Int) (hd : (decI l).1 = ns ∧ ((decI l).2.1 : Int) = u ∧ ((decI l).2.2 : Int) = e) :
    Calls Try.prog 25 #[.slice (some ⟨w.heap.size, 0, none⟩) k k] (w.alloc (.cells cs t)) fun x w' =>
      ∃ A c, x = .returned (.tuple #[.slice A ns.length c, .int .i64 u, .int .i64 e]) ∧ w'.ownsRow w.heap.size 3 1 (.slice A ns.length c) ns.length (ns.map iv) ∧ Below w.heap.size w w' := by
  subst hk
  have hb : Below w.heap.size w (w.alloc (.cells cs t)) := (Below.refl _ _).alloc (Nat.le_refl _) _
  refine (getInts_any _ _ _ l _ (lit_sl w t (l.map bv) cs hcs 1 l.length (by simp)) (Nat.le_refl _) (Nat.le_refl _) (by unfold maxLen; omega) (by omega)).mono ?_
  rintro x w' ⟨v', rfl, h1, h2⟩
  rw [hd.1] at h1
  obtain ⟨A, c, rfl, _, _⟩ := own_form h1
  refine ⟨A, c, by rw [← hd.2.1, ← hd.2.2], ?_, hb.trans (h2.mono hb.size)⟩
  exact ⟨h1.1, h1.2.imp id fun ⟨g, cp, cur, q1, q2, q3⟩ => ⟨g, cp, cur, q1, Nat.le_trans hb.size q2, q3⟩⟩

theorem lit_digests (w : World) (g : Nat) (hg : g = w.heap.size) (t : TypeId) (ds : List (List UInt8)) (hds : ∀ d ∈ ds, d.length = 16) (cs : Array Value) (k : Nat) (hcs : cs = (ds.flatten.map bv).toArray) (hk : ds.length = k) (hl : ds.length ≤ 1000) :
    Calls Try.prog 19 #[.slice (some ⟨g, 0, none⟩) k k] (w.alloc (.cells cs t)) fun x w' =>
      ∃ A c, x = .returned (.slice A (encD ds).length c) ∧ w'.ownsRow w.heap.size 5 1 (.slice A (encD ds).length c) (encD ds).length ((encD ds).map bv) ∧ c ≤ maxLen ∧ Below w.heap.size w w' := by
  subst hk hg
  have hb : Below w.heap.size w (w.alloc (.cells cs t)) := (Below.refl _ _).alloc (Nat.le_refl _) _
  refine (digests_any _ _ _ ds _ (lit_sl w t (ds.flatten.map bv) cs hcs 16 ds.length (by rw [List.length_map, flatten_len ds hds])) hds (Nat.le_refl _) (by omega)).mono ?_
  rintro x w' ⟨v', rfl, h1, h2⟩
  obtain ⟨A, c, rfl, _, hc⟩ := own_form h1
  exact ⟨A, c, rfl, ⟨h1.1, h1.2.imp id fun ⟨g, cp, cur, q1, q2, q3⟩ => ⟨g, cp, cur, q1, Nat.le_trans hb.size q2, q3⟩⟩, hc, hb.trans (h2.mono hb.size)⟩

theorem own_cap {w : World} {base : Nat} {e : TypeId} {size n c : Nat} {A : Option Addr} {xs : List Value} (h : w.ownsRow base e size (.slice A n c) n xs) : n ≤ c ∧ c ≤ maxLen := by
  obtain ⟨A', c', he, h1, h2⟩ := own_form h
  injection he with _ _ he
  subst he
  exact ⟨h1, h2⟩

theorem own_getDigests (w : World) (base : Nat) (A : Option Addr) (c : Nat) (l : List UInt8) (hown : w.ownsRow base 5 1 (.slice A l.length c) l.length (l.map bv)) (hl : l.length ≤ 100000) (ds : List (List UInt8)) (u e : Int)
    (hd : (decD l).1 = ds ∧ ((decD l).2.1 : Int) = u ∧ ((decD l).2.2 : Int) = e) :
    Calls Try.prog 28 #[.slice A l.length c] w fun x w' =>
      ∃ A' c', x = .returned (.tuple #[.slice A' ds.length c', .int .i64 u, .int .i64 e]) ∧ w'.ownsRow w.heap.size 51 16 (.slice A' ds.length c') ds.length (ds.flatten.map bv) ∧ Below w.heap.size w w' := by
  refine (getDigests_any _ _ _ l _ (Sl.of_own hown) (Nat.le_refl _) (own_cap hown).1 (own_cap hown).2 (by omega)).mono ?_
  rintro x w' ⟨v', rfl, h1, h2⟩
  rw [hd.1] at h1
  obtain ⟨A', c', rfl, _, _⟩ := own_form h1
  exact ⟨A', c', by rw [← hd.2.1, ← hd.2.2], h1, h2⟩

theorem own_int (n : Int) (w : World) (hn : -9223372036854775808 ≤ n) (hn' : n ≤ 9223372036854775807) :
    Calls Try.prog 13 #[.int .i64 n] w fun e w' =>
      ∃ A c, e = .returned (.slice A (enc n).length c) ∧ w'.ownsRow w.heap.size 5 1 (.slice A (enc n).length c) (enc n).length ((enc n).map bv) ∧ Below w.heap.size w w' := by
  refine (int_any n w hn hn').mono ?_
  rintro x w' ⟨v', rfl, h1, h2⟩
  obtain ⟨A, c, rfl, _, _⟩ := own_form h1
  exact ⟨A, c, rfl, h1, h2⟩
theorem own_bytes (s : ByteArray) (w : World) (hs : s.size ≤ 100000000) :
    Calls Try.prog 15 #[.string s] w fun e w' =>
      ∃ A c, e = .returned (.slice A (encB s.data.toList).length c) ∧ w'.ownsRow w.heap.size 5 1 (.slice A (encB s.data.toList).length c) (encB s.data.toList).length ((encB s.data.toList).map bv) ∧ Below w.heap.size w w' := by
  refine (bytes_any s w hs).mono ?_
  rintro x w' ⟨v', rfl, h1, h2⟩
  obtain ⟨A, c, rfl, _, _⟩ := own_form h1
  exact ⟨A, c, rfl, h1, h2⟩
theorem lit_ints (w : World) (t : TypeId) (l : List Int) (cs : Array Value) (k : Nat) (hcs : cs = (l.map iv).toArray) (hk : l.length = k) (hl : l.length ≤ 1000) (hr : ∀ n ∈ l, -9223372036854775808 ≤ n ∧ n ≤ 9223372036854775807) :
    Calls Try.prog 17 #[.slice (some ⟨w.heap.size, 0, none⟩) k k] (w.alloc (.cells cs t)) fun e w' =>
      ∃ A c, e = .returned (.slice A (encI l).length c) ∧ w'.ownsRow w.heap.size 5 1 (.slice A (encI l).length c) (encI l).length ((encI l).map bv) ∧ Below w.heap.size w w' := by
  subst hk
  have hb : Below w.heap.size w (w.alloc (.cells cs t)) := (Below.refl _ _).alloc (Nat.le_refl _) _
  refine (ints_any _ _ _ l _ (lit_sl w t (l.map iv) cs hcs 1 l.length (by simp)) (Nat.le_refl _) hr (by omega)).mono ?_
  rintro x w' ⟨v', rfl, h1, h2⟩
  obtain ⟨A, c, rfl, _, _⟩ := own_form h1
  exact ⟨A, c, rfl, ⟨h1.1, h1.2.imp id fun ⟨g, cp, cur, q1, q2, q3⟩ => ⟨g, cp, cur, q1, Nat.le_trans hb.size q2, q3⟩⟩, hb.trans (h2.mono hb.size)⟩

theorem below_drewN {B : Nat} {a w : World} (h : Below B a w) (n : Nat) : Below B a (w.drewN n) := ⟨h.os, h.tape, h.output, h.size, h.block⟩

theorem has16_kept {w w' : World} {B b o : Nat} {d : List UInt8} (h : Has16 w ⟨b, o, none⟩ d) (hb : Below B w w') (hlt : b < B) : Has16 w' ⟨b, o, none⟩ d :=
  ⟨h.1, fun j u hu => by rw [← h.2 j u hu, addr_add]; exact hb.cell (p := ⟨b, _, none⟩) hlt⟩

theorem lit_same (w : World) (t : TypeId) (base : Nat) (A : Option Addr) (c : Nat) (xs ys : List UInt8) (hown : w.ownsRow base 5 1 (.slice A xs.length c) xs.length (xs.map bv)) (cs : Array Value) (k : Nat) (hcs : cs = (ys.map bv).toArray)
    (hk : ys.length = k) (hl : xs.length ≤ 1000) (he : xs = ys) :
    Calls Try.prog 12 #[.slice A xs.length c, .slice (some ⟨w.heap.size, 0, none⟩) k k] (w.alloc (.cells cs t)) fun x w' => x = .returned (.bool true) ∧ Below w.heap.size w w' := by
  subst hk
  have hb : Below w.heap.size w (w.alloc (.cells cs t)) := (Below.refl _ _).alloc (Nat.le_refl _) _
  refine (same_any _ _ _ _ _ _ xs ys _ ((Sl.of_own hown).below hb) (lit_sl w t (ys.map bv) cs hcs 1 ys.length (by simp)) (by omega) (by rw [← he]; omega)).mono ?_
  rintro x w' ⟨rfl, n, rfl⟩
  exact ⟨ret_b (decide_eq_true he), below_drewN hb n⟩
theorem lit_sameInts (w : World) (t : TypeId) (base : Nat) (A : Option Addr) (c : Nat) (xs ys : List Int) (hown : w.ownsRow base 3 1 (.slice A xs.length c) xs.length (xs.map iv)) (cs : Array Value) (k : Nat) (hcs : cs = (ys.map iv).toArray)
    (hk : ys.length = k) (hl : xs.length ≤ 1000) (he : xs = ys) :
    Calls Try.prog 27 #[.slice A xs.length c, .slice (some ⟨w.heap.size, 0, none⟩) k k] (w.alloc (.cells cs t)) fun x w' => x = .returned (.bool true) ∧ Below w.heap.size w w' := by
  subst hk
  have hb : Below w.heap.size w (w.alloc (.cells cs t)) := (Below.refl _ _).alloc (Nat.le_refl _) _
  refine (sameInts_any _ _ _ _ _ _ xs ys _ ((Sl.of_own hown).below hb) (lit_sl w t (ys.map iv) cs hcs 1 ys.length (by simp)) (by omega) (by rw [← he]; omega)).mono ?_
  rintro x w' ⟨rfl, n, rfl⟩
  exact ⟨ret_b (decide_eq_true he), below_drewN hb n⟩
theorem lit_sameDigs (w : World) (t : TypeId) (base : Nat) (A : Option Addr) (c : Nat) (xs ys : List (List UInt8)) (hown : w.ownsRow base 51 16 (.slice A xs.length c) xs.length (xs.flatten.map bv)) (cs : Array Value) (k : Nat) (hcs : cs = (ys.flatten.map bv).toArray)
    (hk : ys.length = k) (hl : xs.length ≤ 1000) (hd : ∀ d ∈ xs, d.length = 16) (he : xs = ys) :
    Calls Try.prog 30 #[.slice A xs.length c, .slice (some ⟨w.heap.size, 0, none⟩) k k] (w.alloc (.cells cs t)) fun x w' => x = .returned (.bool true) ∧ Below w.heap.size w w' := by
  subst hk
  have hb : Below w.heap.size w (w.alloc (.cells cs t)) := (Below.refl _ _).alloc (Nat.le_refl _) _
  refine (sameDigs_any _ _ _ _ _ _ xs ys _ ((Sl.of_own hown).below hb) (lit_sl w t (ys.flatten.map bv) cs hcs 16 ys.length (by rw [List.length_map, flatten_len ys (he ▸ hd)])) hd (he ▸ hd) (by omega) (by rw [← he]; omega)).mono ?_
  rintro x w' ⟨rfl, n, rfl⟩
  exact ⟨ret_b (decide_eq_true he), below_drewN hb n⟩

set_option maxHeartbeats 1000000 in
set_option maxRecDepth 100000 in
theorem sanity_any (w : World) : Calls Try.prog 11 #[] w fun x w' => x = .returned (.bool true) ∧ Below w.heap.size w w' := by
  go_enter Try.func11, Try.ntmps11
  go_wp2_with fail
  refine (lit_getInt w 5 [130, 1, 0, 9] _ 4 rfl rfl (by decide) 256 3 0 (by decide +kernel)).mono ?_
  rintro x w1 ⟨rfl, hb⟩
  have B1 := hideIt hb
  clear hb
  go_wp2_with fail
  refine (lit_getInt w1 5 [130, 1] _ 2 rfl rfl (by decide) 0 0 5 (by decide +kernel)).mono ?_
  rintro x w2 ⟨rfl, hb⟩
  have B2 := hideIt (B1.out.trans (hb.mono B1.out.size))
  clear hb B1
  go_wp2_with fail
  refine (lit_getInt w2 5 [129, 0] _ 2 rfl rfl (by decide) 0 0 6 (by decide +kernel)).mono ?_
  rintro x w3 ⟨rfl, hb⟩
  have B3 := hideIt (B2.out.trans (hb.mono B2.out.size))
  clear hb B2
  go_wp2_with fail
  refine (lit_getBytes w3 5 [129, 2, 97, 98, 7] _ 5 rfl rfl (by decide) ⟨#[97, 98]⟩ 4 0 (by decide +kernel)).mono ?_
  rintro x w4 ⟨rfl, hb⟩
  have B4 := hideIt (B3.out.trans (hb.mono B3.out.size))
  clear hb B3
  go_wp2_with fail
  refine (lit_getInts w4 5 [129, 2, 129, 1, 127] _ 5 rfl rfl (by decide) [1, -1] 5 0 (by decide +kernel)).mono ?_
  rintro x w5 ⟨A5, c5, rfl, ho, hb⟩
  have B5 := hideIt (B4.out.trans (hb.mono B4.out.size))
  have O5 := hideIt ho
  clear hb B4 ho
  go_wp2_with fail
  have hd0 : Has16 (w5.alloc (.cells #[.int .u8 1, .int .u8 2, .int .u8 0, .int .u8 0, .int .u8 0, .int .u8 0, .int .u8 0, .int .u8 0, .int .u8 0, .int .u8 0, .int .u8 0, .int .u8 0, .int .u8 0, .int .u8 0, .int .u8 0, .int .u8 0] 51))
      ⟨w5.heap.size, 0, none⟩ [1, 2, 0, 0, 0, 0, 0, 0, 0, 0, 0, 0, 0, 0, 0, 0] := ⟨rfl, fun j u hu => by rw [addr_add, Nat.zero_add]; exact (Blk.new w5 _ _).cell j ▸ hu⟩
  have hz0 : w5.heap.size + 1 = (w5.alloc (.cells #[.int .u8 1, .int .u8 2, .int .u8 0, .int .u8 0, .int .u8 0, .int .u8 0, .int .u8 0, .int .u8 0, .int .u8 0, .int .u8 0, .int .u8 0, .int .u8 0, .int .u8 0, .int .u8 0, .int .u8 0, .int .u8 0] 51)).heap.size := by simp
  have hb0 : Below w5.heap.size w5 (w5.alloc (.cells #[.int .u8 1, .int .u8 2, .int .u8 0, .int .u8 0, .int .u8 0, .int .u8 0, .int .u8 0, .int .u8 0, .int .u8 0, .int .u8 0, .int .u8 0, .int .u8 0, .int .u8 0, .int .u8 0, .int .u8 0, .int .u8 0] 51)) := (Below.refl _ _).alloc (Nat.le_refl _) _
  generalize (w5.alloc (.cells #[.int .u8 1, .int .u8 2, .int .u8 0, .int .u8 0, .int .u8 0, .int .u8 0, .int .u8 0, .int .u8 0, .int .u8 0, .int .u8 0, .int .u8 0, .int .u8 0, .int .u8 0, .int .u8 0, .int .u8 0, .int .u8 0] 51)) = w6 at *
  have D6 := hideIt hd0
  have Z6 := hideIt hz0
  have B6 := hideIt (B5.out.trans (hb0.mono B5.out.size))
  have O6 := hideIt (own_kept O5.out hb0)
  have hlt6 : w5.heap.size < w6.heap.size := by omega
  clear hd0 hz0 hb0 B5 O5
  refine (lit_digests w6 _ Z6.out 51 [[1, 2, 0, 0, 0, 0, 0, 0, 0, 0, 0, 0, 0, 0, 0, 0]] (by decide) _ 1 rfl rfl (by decide)).mono ?_
  rintro x w7 ⟨A7, c7, rfl, ho, hc, hb⟩
  have B7 := hideIt (B6.out.trans (hb.mono B6.out.size))
  have O7 := hideIt (own_kept O6.out hb)
  have D7 := hideIt (has16_kept D6.out hb hlt6)
  have P7 := hideIt ho
  have hlt7 : w5.heap.size < w7.heap.size := Nat.lt_of_lt_of_le hlt6 hb.size
  clear hb ho hc B6 O6 D6 Z6 hlt6
  go_wp2_with fail
  refine (own_getDigests w7 _ A7 c7 _ P7.out (by decide +kernel) [[1, 2, 0, 0, 0, 0, 0, 0, 0, 0, 0, 0, 0, 0, 0, 0]] 18 0 (by decide +kernel)).mono ?_
  rintro x w8 ⟨A8, c8, rfl, ho, hb⟩
  have B8 := hideIt (B7.out.trans (hb.mono B7.out.size))
  have O8 := hideIt (own_kept O7.out hb)
  have D8 := hideIt (has16_kept D7.out hb hlt7)
  have P8 := hideIt ho
  have hlt8 : w5.heap.size < w8.heap.size := Nat.lt_of_lt_of_le hlt7 hb.size
  clear hb ho B7 O7 D7 P7 hlt7
  go_wp2_with fail
  refine (own_int (-257) w8 (by decide) (by decide)).mono ?_
  rintro x w9 ⟨A9, c9, rfl, ho, hb⟩
  have B9 := hideIt (B8.out.trans (hb.mono B8.out.size))
  have O9 := hideIt (own_kept O8.out hb)
  have P9 := hideIt (own_kept P8.out hb)
  have D9 := hideIt (has16_kept D8.out hb hlt8)
  have R9 := hideIt ho
  have hlt9 : w5.heap.size < w9.heap.size := Nat.lt_of_lt_of_le hlt8 hb.size
  clear hb ho B8 O8 D8 P8 hlt8
  go_wp2_with fail
  refine (lit_same w9 5 _ A9 c9 _ [125, 254, 255] R9.out _ 3 rfl rfl (by decide +kernel) (by decide +kernel)).mono ?_
  rintro x w10 ⟨rfl, hb⟩
  have B10 := hideIt (B9.out.trans (hb.mono B9.out.size))
  have O10 := hideIt (own_kept O9.out hb)
  have P10 := hideIt (own_kept P9.out hb)
  have D10 := hideIt (has16_kept D9.out hb hlt9)
  have hlt10 : w5.heap.size < w10.heap.size := Nat.lt_of_lt_of_le hlt9 hb.size
  clear hb B9 O9 D9 P9 R9 hlt9
  go_wp2_with fail
  refine (lit_sameInts w10 3 _ A5 c5 [1, -1] [1, -1] O10.out _ 2 rfl rfl (by decide +kernel) rfl).mono ?_
  rintro x w11 ⟨rfl, hb⟩
  have B11 := hideIt (B10.out.trans (hb.mono B10.out.size))
  have P11 := hideIt (own_kept P10.out hb)
  have D11 := hideIt (has16_kept D10.out hb hlt10)
  have hlt11 : w5.heap.size < w11.heap.size := Nat.lt_of_lt_of_le hlt10 hb.size
  clear hb B10 O10 D10 P10 hlt10
  go_wp2_with fail
  refine (own_bytes ⟨#[97, 98]⟩ w11 (by decide)).mono ?_
  rintro x w12 ⟨A12, c12, rfl, ho, hb⟩
  have B12 := hideIt (B11.out.trans (hb.mono B11.out.size))
  have P12 := hideIt (own_kept P11.out hb)
  have D12 := hideIt (has16_kept D11.out hb hlt11)
  have R12 := hideIt ho
  have hlt12 : w5.heap.size < w12.heap.size := Nat.lt_of_lt_of_le hlt11 hb.size
  clear hb ho B11 D11 P11 hlt11
  go_wp2_with fail
  refine (lit_same w12 5 _ A12 c12 _ [129, 2, 97, 98] R12.out _ 4 rfl rfl (by decide +kernel) (by decide +kernel)).mono ?_
  rintro x w14 ⟨rfl, hb⟩
  have B14 := hideIt (B12.out.trans (hb.mono B12.out.size))
  have P14 := hideIt (own_kept P12.out hb)
  have D14 := hideIt (has16_kept D12.out hb hlt12)
  have hlt14 : w5.heap.size < w14.heap.size := Nat.lt_of_lt_of_le hlt12 hb.size
  clear hb B12 D12 P12 R12 hlt12
  go_wp2_with fail
  refine (lit_ints w14 3 [1, -1] _ 2 rfl rfl (by decide) (by decide)).mono ?_
  rintro x w15 ⟨A15, c15, rfl, ho, hb⟩
  have B15 := hideIt (B14.out.trans (hb.mono B14.out.size))
  have P15 := hideIt (own_kept P14.out hb)
  have D15 := hideIt (has16_kept D14.out hb hlt14)
  have R15 := hideIt ho
  have hlt15 : w5.heap.size < w15.heap.size := Nat.lt_of_lt_of_le hlt14 hb.size
  clear hb ho B14 D14 P14 hlt14
  go_wp2_with fail
  refine (lit_same w15 5 _ A15 c15 _ [129, 2, 129, 1, 127] R15.out _ 5 rfl rfl (by decide +kernel) (by decide +kernel)).mono ?_
  rintro x w13 ⟨rfl, hb⟩
  have B13 := hideIt (B15.out.trans (hb.mono B15.out.size))
  have P13 := hideIt (own_kept P15.out hb)
  have D13 := hideIt (has16_kept D15.out hb hlt15)
  clear hb B15 D15 P15 R15 hlt15
  have q0 : w13.cell? ⟨w5.heap.size, 0, none⟩ = some (.int .u8 1) := by
    have := D13.out.2 0 _ rfl
    rwa [addr_add, Nat.zero_add] at this
  have q1 : w13.cell? ⟨w5.heap.size, 1, none⟩ = some (.int .u8 2) := by
    have := D13.out.2 1 _ rfl
    rwa [addr_add, Nat.zero_add] at this
  have q2 : w13.cell? ⟨w5.heap.size, 2, none⟩ = some (.int .u8 0) := by
    have := D13.out.2 2 _ rfl
    rwa [addr_add, Nat.zero_add] at this
  have q3 : w13.cell? ⟨w5.heap.size, 3, none⟩ = some (.int .u8 0) := by
    have := D13.out.2 3 _ rfl
    rwa [addr_add, Nat.zero_add] at this
  have q4 : w13.cell? ⟨w5.heap.size, 4, none⟩ = some (.int .u8 0) := by
    have := D13.out.2 4 _ rfl
    rwa [addr_add, Nat.zero_add] at this
  have q5 : w13.cell? ⟨w5.heap.size, 5, none⟩ = some (.int .u8 0) := by
    have := D13.out.2 5 _ rfl
    rwa [addr_add, Nat.zero_add] at this
  have q6 : w13.cell? ⟨w5.heap.size, 6, none⟩ = some (.int .u8 0) := by
    have := D13.out.2 6 _ rfl
    rwa [addr_add, Nat.zero_add] at this
  have q7 : w13.cell? ⟨w5.heap.size, 7, none⟩ = some (.int .u8 0) := by
    have := D13.out.2 7 _ rfl
    rwa [addr_add, Nat.zero_add] at this
  have q8 : w13.cell? ⟨w5.heap.size, 8, none⟩ = some (.int .u8 0) := by
    have := D13.out.2 8 _ rfl
    rwa [addr_add, Nat.zero_add] at this
  have q9 : w13.cell? ⟨w5.heap.size, 9, none⟩ = some (.int .u8 0) := by
    have := D13.out.2 9 _ rfl
    rwa [addr_add, Nat.zero_add] at this
  have q10 : w13.cell? ⟨w5.heap.size, 10, none⟩ = some (.int .u8 0) := by
    have := D13.out.2 10 _ rfl
    rwa [addr_add, Nat.zero_add] at this
  have q11 : w13.cell? ⟨w5.heap.size, 11, none⟩ = some (.int .u8 0) := by
    have := D13.out.2 11 _ rfl
    rwa [addr_add, Nat.zero_add] at this
  have q12 : w13.cell? ⟨w5.heap.size, 12, none⟩ = some (.int .u8 0) := by
    have := D13.out.2 12 _ rfl
    rwa [addr_add, Nat.zero_add] at this
  have q13 : w13.cell? ⟨w5.heap.size, 13, none⟩ = some (.int .u8 0) := by
    have := D13.out.2 13 _ rfl
    rwa [addr_add, Nat.zero_add] at this
  have q14 : w13.cell? ⟨w5.heap.size, 14, none⟩ = some (.int .u8 0) := by
    have := D13.out.2 14 _ rfl
    rwa [addr_add, Nat.zero_add] at this
  have q15 : w13.cell? ⟨w5.heap.size, 15, none⟩ = some (.int .u8 0) := by
    have := D13.out.2 15 _ rfl
    rwa [addr_add, Nat.zero_add] at this
  go_wp2_with fail
  refine (lit_sameDigs w13 51 _ A8 c8 [[1, 2, 0, 0, 0, 0, 0, 0, 0, 0, 0, 0, 0, 0, 0, 0]] [[1, 2, 0, 0, 0, 0, 0, 0, 0, 0, 0, 0, 0, 0, 0, 0]] P13.out _ 1 rfl rfl (by decide +kernel) (by decide) rfl).mono ?_
  rintro x w16 ⟨rfl, hb⟩
  have B16 := hideIt (B13.out.trans (hb.mono B13.out.size))
  clear hb B13 q0 q1 q2 q3 q4 q5 q6 q7 q8 q9 q10 q11 q12 q13 q14 q15
  go_wp2
  go_ret
  exact ⟨rfl, B16.out⟩

end Go.Proofs.Yticgbohkgjheaaa
