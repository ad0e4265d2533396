/-
  The order of the encodings of integers, as plain mathematics: it is that of the integers, and none is a proper prefix of another.
-/
import Derived.Test.YticgbohkgjheaaaVC
import Derived.BigQuiet
namespace Go.Proofs.Yticgbohkgjheaaa
open Go.RowKit

/-- A region that draws its order, whose operations read no memory and whose callees leave what lies below B as it was: one walk. -/
theorem wp_region_quiet_below {P : Program} {id : Nat} {Q : Exit → Act → World → Prop} {a : Act} {w w0 : World} {B : Nat} {l : List Oper} (hm : P.follows .mixedOrders = true) (hB : Region.lexB .any l.toArray = true) (hC : Below B w0 w)
    (h : wpQuiet P l.toArray (fun w' => Below B w0 w') (fun a' => ∀ w', Below B w0 w' → Q .normal a' w') l a) : (Code.region id l.toArray true).wp P Q a w :=
  wp_region_quiet (C := fun w' => Below B w0 w') hm hB hC.drew (by simpa using h)

theorem num_cons (x : UInt8) (l : List UInt8) : num (x :: l) = x.toNat * 256 ^ l.length + num l := by
  induction l using snoc_ind with
  | h0 => simp [num]
  | h1 l d ih =>
    rw [← List.cons_append, num_snoc, ih, num_snoc, List.length_append, List.length_singleton, Nat.pow_succ, Nat.add_mul, Nat.mul_assoc]
    omega
theorem less_num : ∀ (a b : List UInt8), a.length = b.length → Op.bytesLess a b = decide (num a < num b)
  | [], [], _ => by simp [Op.bytesLess]
  | [], _ :: _, h => by simp at h
  | _ :: _, [], h => by simp at h
  | x :: a, y :: b, h => by
    have hl : a.length = b.length := by simpa using h
    rw [Op.bytesLess, less_num a b hl, num_cons, num_cons, hl]
    have h1 := num_lt a
    have h2 := num_lt b
    rw [hl] at h1
    generalize 256 ^ b.length = P at *
    rw [Bool.eq_iff_iff]
    simp only [Bool.or_eq_true, Bool.and_eq_true, decide_eq_true_eq, beq_iff_eq, UInt8.lt_iff_toNat_lt, ← UInt8.toNat_inj]
    generalize x.toNat = p at *
    generalize y.toNat = q at *
    rcases Nat.lt_trichotomy p q with hp | hp | hp
    · have h3 : (p + 1) * P ≤ q * P := Nat.mul_le_mul_right P hp
      rw [Nat.add_mul, Nat.one_mul] at h3
      constructor
      · intro _; omega
      · intro _; exact .inl hp
    · subst hp
      constructor
      · rintro (h3 | ⟨_, h3⟩) <;> omega
      · intro h3; exact .inr ⟨rfl, by omega⟩
    · have h3 : (q + 1) * P ≤ p * P := Nat.mul_le_mul_right P hp
      rw [Nat.add_mul, Nat.one_mul] at h3
      constructor
      · rintro (h4 | ⟨h4, _⟩) <;> omega
      · intro _; omega
theorem num_flip (l : List UInt8) : num (l.map fun x : UInt8 => 255 - x) + num l + 1 = 256 ^ l.length := by
  induction l using snoc_ind with
  | h0 => simp [num]
  | h1 l d ih =>
    have hd := d.toNat_lt
    have h1 : (255 - d : UInt8).toNat = 255 - d.toNat := by
      rw [UInt8.toNat_sub_of_le _ _ (by rw [UInt8.le_iff_toNat_le]; simp; omega)]; simp
    rw [List.map_append, List.map_singleton, num_snoc, num_snoc, h1, List.length_append, List.length_singleton, Nat.pow_succ]
    omega
theorem less_head {x y : UInt8} {a b : List UInt8} (h : x.toNat < y.toNat) : Op.bytesLess (x :: a) (y :: b) = true := by
  rw [Op.bytesLess, Bool.or_eq_true, decide_eq_true_eq, UInt8.lt_iff_toNat_lt]; exact .inl h
theorem less_not {x y : UInt8} {a b : List UInt8} (h : y.toNat < x.toNat) : Op.bytesLess (x :: a) (y :: b) = false := by
  rw [Op.bytesLess, Bool.or_eq_false_iff, Bool.and_eq_false_iff]
  refine ⟨?_, .inl ?_⟩
  · rw [decide_eq_false_iff_not, UInt8.lt_iff_toNat_lt]; omega
  · rw [beq_eq_false_iff_ne, ne_eq, ← UInt8.toNat_inj]; omega
theorem less_same {x : UInt8} {a b : List UInt8} : Op.bytesLess (x :: a) (x :: b) = Op.bytesLess a b := by
  have h1 : ¬ x < x := by rw [UInt8.lt_iff_toNat_lt]; omega
  rw [Op.bytesLess]
  simp [h1]
theorem be_pow (m : Nat) (h : m < 256 ^ 9) (h0 : m ≠ 0) : 256 ^ ((be m).length - 1) ≤ m := by
  have h1 := (be_len m h).2 h0
  have h2 : (be m).length ≠ 0 := by
    rw [be_step m h0 h]; simp
  obtain ⟨k, hk⟩ : ∃ k, (be m).length = k + 1 := ⟨(be m).length - 1, by omega⟩
  rw [hk, Nat.pow_succ] at h1
  rw [hk, Nat.add_sub_cancel]
  omega
theorem be_short (p q : Nat) (hp : p < 256 ^ 9) (hq : q < 256 ^ 9) (h : (be p).length < (be q).length) : p < q := by
  have h1 := (be_len p hp).1
  have h0 : q ≠ 0 := by rintro rfl; rw [be_zero] at h; simp at h
  have h2 := be_pow q hq h0
  have h3 : 256 ^ (be p).length ≤ 256 ^ ((be q).length - 1) := Nat.pow_le_pow_right (by omega) (by omega)
  omega

theorem enc_less {m n : Int} (hm : -9223372036854775808 ≤ m) (hm' : m ≤ 9223372036854775807) (hn : -9223372036854775808 ≤ n) (hn' : n ≤ 9223372036854775807) : Op.bytesLess (enc m) (enc n) = decide (m < n) := by
  have km := be_mag_le m hm hm'
  have kn := be_mag_le n hn hn'
  have p9 : mag m < 256 ^ 9 := Nat.lt_trans (mag_lt m hm hm') (by decide)
  have q9 : mag n < 256 ^ 9 := Nat.lt_trans (mag_lt n hn hn') (by decide)
  have lm := lead_nat m _ km
  have ln := lead_nat n _ kn
  have s1 := be_short _ _ p9 q9
  have s2 := be_short _ _ q9 p9
  have e1 := of_mag m
  have e2 := of_mag n
  unfold enc
  by_cases c1 : m < 0
  · rw [if_pos c1] at lm e1
    by_cases c2 : n < 0
    · rw [if_pos c2] at ln e2
      rcases Nat.lt_trichotomy (be (mag m)).length (be (mag n)).length with h | h | h
      · have := s1 h
        rw [less_not (by omega)]
        exact (decide_eq_false (by omega)).symm
      · have hl : lead m (be (mag m)).length = lead n (be (mag n)).length := by unfold lead; rw [if_pos c1, if_pos c2, h]
        rw [hl, less_same]
        have f1 : flip m = fun x : UInt8 => 255 - x := by funext x; unfold flip; rw [if_pos c1]
        have f2 : flip n = fun x : UInt8 => 255 - x := by funext x; unfold flip; rw [if_pos c2]
        rw [f1, f2, less_num _ _ (by simp [h])]
        have g1 := num_flip (be (mag m))
        have g2 := num_flip (be (mag n))
        rw [num_be _ p9, h] at g1
        rw [num_be _ q9] at g2
        generalize num ((be (mag m)).map fun x : UInt8 => 255 - x) = P at *
        generalize num ((be (mag n)).map fun x : UInt8 => 255 - x) = Q at *
        rw [decide_eq_decide]
        omega
      · have := s2 h
        rw [less_head (by omega)]
        exact (decide_eq_true (by omega)).symm
    · rw [if_neg c2] at ln e2
      rw [less_head (by omega)]
      exact (decide_eq_true (by omega)).symm
  · rw [if_neg c1] at lm e1
    by_cases c2 : n < 0
    · rw [if_pos c2] at ln e2
      rw [less_not (by omega)]
      exact (decide_eq_false (by omega)).symm
    · rw [if_neg c2] at ln e2
      rcases Nat.lt_trichotomy (be (mag m)).length (be (mag n)).length with h | h | h
      · have := s1 h
        rw [less_head (by omega)]
        exact (decide_eq_true (by omega)).symm
      · have hl : lead m (be (mag m)).length = lead n (be (mag n)).length := by unfold lead; rw [if_neg c1, if_neg c2, h]
        rw [hl, less_same]
        have f1 : flip m = id := by funext x; unfold flip; rw [if_neg c1]; rfl
        have f2 : flip n = id := by funext x; unfold flip; rw [if_neg c2]; rfl
        rw [f1, f2, List.map_id, List.map_id, less_num _ _ h, num_be _ p9, num_be _ q9, decide_eq_decide]
        omega
      · have := s2 h
        rw [less_not (by omega)]
        exact (decide_eq_false (by omega)).symm
theorem enc_pre {m n : Int} (hm : -9223372036854775808 ≤ m) (hm' : m ≤ 9223372036854775807) (hn : -9223372036854775808 ≤ n) (hn' : n ≤ 9223372036854775807) {t : List UInt8} (h : enc n = enc m ++ t) : m = n := by
  have h1 := dec_enc hn hn' []
  rw [List.append_nil, h, dec_enc hm hm'] at h1
  exact congrArg Prod.fst h1
theorem enc_inj {m n : Int} (hm : -9223372036854775808 ≤ m) (hm' : m ≤ 9223372036854775807) (hn : -9223372036854775808 ≤ n) (hn' : n ≤ 9223372036854775807) (h : enc m = enc n) : m = n := enc_pre hm hm' hn hn' (t := []) (by rw [List.append_nil, h])
theorem enc_take {m n : Int} (hm : -9223372036854775808 ≤ m) (hm' : m ≤ 9223372036854775807) (hn : -9223372036854775808 ≤ n) (hn' : n ≤ 9223372036854775807)
    (h : (enc m).take (min (enc m).length (enc n).length) = (enc n).take (min (enc m).length (enc n).length)) : m = n := by
  rcases Nat.le_total (enc m).length (enc n).length with hl | hl
  · rw [Nat.min_eq_left hl, List.take_length] at h
    refine enc_pre hm hm' hn hn' (t := (enc n).drop (enc m).length) ?_
    rw [h, List.length_take, Nat.min_eq_left hl, List.take_append_drop]
  · rw [Nat.min_eq_right hl, List.take_length] at h
    refine (enc_pre hn hn' hm hm' (t := (enc m).drop (enc n).length) ?_).symm
    rw [← h, List.length_take, Nat.min_eq_left hl, List.take_append_drop]

end Go.Proofs.Yticgbohkgjheaaa
