/-
  Decoding an encoded length, byte string and list; truncated ones; canonical ones: plain mathematics.
-/
import Derived.Test.YticgbohkgjheaaaThm
namespace Go.Proofs.Yticgbohkgjheaaa

theorem decLen_enc (size k : Nat) (t : List UInt8) (hs : 0 < size) (hk : k ≤ 1000000000) (ht : k * size ≤ t.length) : decLen size (enc (k : Int) ++ t) = (k, (enc (k : Int)).length, 0) := by
  have hd := dec_enc (n := (k : Int)) (by omega) (by omega) t
  unfold decLen
  rw [hd]
  simp only
  rw [if_neg (by simp), if_neg (by omega), if_neg]
  · simp
  · rw [List.length_append, Nat.add_sub_cancel_left, Int.toNat_natCast]
    have : k ≤ t.length / size := (Nat.le_div_iff_mul_le hs).2 ht
    omega
theorem decLen_short (size k : Nat) (t : List UInt8) (hs : 0 < size) (hk : k ≤ 1000000000) (ht : t.length < k * size) : decLen size (enc (k : Int) ++ t) = (0, 0, 5) := by
  have hd := dec_enc (n := (k : Int)) (by omega) (by omega) t
  unfold decLen
  rw [hd]
  simp only
  rw [if_neg (by simp), if_neg (by omega), if_pos]
  rw [List.length_append, Nat.add_sub_cancel_left, Int.toNat_natCast]
  exact (Nat.div_lt_iff_lt_mul hs).2 ht
theorem decLen_cut (size k i : Nat) (hk : k ≤ 1000000000) (hi : i < (enc (k : Int)).length) : decLen size ((enc (k : Int)).take i) = (0, 0, 5) := by
  have hd := dec_cut (n := (k : Int)) (by omega) (by omega) i hi
  unfold decLen
  rw [hd, if_pos (by simp)]

theorem decB_enc (s t : List UInt8) (hk : s.length ≤ 1000000000) : decB (encB s ++ t) = (s, (encB s).length, 0) := by
  unfold encB decB
  rw [List.append_assoc, decLen_enc 1 s.length (s ++ t) (by omega) hk (by rw [List.length_append]; omega)]
  simp only
  rw [if_neg (by simp), List.drop_left, List.take_left, List.length_append]
theorem decB_cut (s : List UInt8) (i : Nat) (hk : s.length ≤ 1000000000) (hi : i < (encB s).length) : (decB ((encB s).take i)).2.2 = 5 := by
  unfold encB at hi ⊢
  rw [List.length_append] at hi
  unfold decB
  by_cases h : i < (enc (s.length : Int)).length
  · rw [List.take_append_of_le_length (by omega), decLen_cut 1 s.length i hk h, if_pos (by simp)]
  · rw [List.take_append, List.take_of_length_le (by omega), decLen_short 1 s.length _ (by omega) hk (by rw [List.length_take]; omega), if_pos (by simp)]

theorem decIs_enc : ∀ (l : List Int) (P t : List UInt8), (∀ n ∈ l, -9223372036854775808 ≤ n ∧ n ≤ 9223372036854775807) →
    decIs (P ++ l.flatMap enc ++ t) l.length P.length = (l, P.length + (l.flatMap enc).length, 0)
  | [], P, t, _ => by simp [decIs]
  | n :: r, P, t, h => by
    obtain ⟨h1, h2⟩ := h n (by simp)
    have hd : dec ((P ++ (n :: r).flatMap enc ++ t).drop P.length) = (n, (enc n).length, 0) := by
      rw [List.append_assoc, List.drop_left, List.flatMap_cons, List.append_assoc]
      exact dec_enc h1 h2 _
    have ih := decIs_enc r (P ++ enc n) t fun x hx => h x (by simp [hx])
    have e : P ++ (n :: r).flatMap enc ++ t = P ++ enc n ++ r.flatMap enc ++ t := by simp [List.flatMap_cons]
    rw [List.length_cons]
    unfold decIs
    rw [hd]
    simp only
    rw [if_neg (by simp), e]
    rw [List.length_append] at ih
    rw [ih]
    unfold glue
    simp [List.flatMap_cons, Nat.add_assoc]
theorem decIs_cut : ∀ (l : List Int) (P : List UInt8) (i : Nat), (∀ n ∈ l, -9223372036854775808 ≤ n ∧ n ≤ 9223372036854775807) → i < (l.flatMap enc).length →
    (decIs (P ++ (l.flatMap enc).take i) l.length P.length).2.2 = 5
  | [], P, i, _, hi => by simp at hi
  | n :: r, P, i, h, hi => by
    obtain ⟨h1, h2⟩ := h n (by simp)
    rw [List.length_cons]
    unfold decIs
    rw [List.drop_left]
    rw [List.flatMap_cons, List.length_append] at hi
    by_cases hlt : i < (enc n).length
    · have hc := dec_cut h1 h2 i hlt
      have e : ((n :: r).flatMap enc).take i = (enc n).take i := by rw [List.flatMap_cons, List.take_append_of_le_length (by omega)]
      rw [e, if_pos (by rw [hc]; simp), hc]
    · have e : ((n :: r).flatMap enc).take i = enc n ++ (r.flatMap enc).take (i - (enc n).length) := by rw [List.flatMap_cons, List.take_append, List.take_of_length_le (by omega)]
      have hd := dec_enc h1 h2 ((r.flatMap enc).take (i - (enc n).length))
      have ih := decIs_cut r (P ++ enc n) (i - (enc n).length) (fun x hx => h x (by simp [hx])) (by omega)
      rw [List.length_append, List.append_assoc] at ih
      rw [e, hd]
      simp only
      rw [if_neg (by simp)]
      unfold glue
      rw [if_pos (by rw [ih]; simp)]
      exact ih

theorem flat_ge : ∀ l : List Int, l.length ≤ (l.flatMap enc).length
  | [] => by simp
  | n :: r => by
    have := flat_ge r
    have h : 1 ≤ (enc n).length := by rw [enc_len]; omega
    rw [List.flatMap_cons, List.length_append, List.length_cons]
    omega
theorem decI_enc (l : List Int) (t : List UInt8) (hk : l.length ≤ 1000000000) (h : ∀ n ∈ l, -9223372036854775808 ≤ n ∧ n ≤ 9223372036854775807) : decI (encI l ++ t) = (l, (encI l).length, 0) := by
  have hg := flat_ge l
  unfold encI decI
  have hl := decLen_enc 1 l.length (l.flatMap enc ++ t) (by omega) hk (by rw [List.length_append]; omega)
  rw [← List.append_assoc] at hl
  rw [hl]
  simp only
  rw [if_neg (by simp), decIs_enc l _ t h, List.length_append]
theorem decI_cut (l : List Int) (i : Nat) (hk : l.length ≤ 1000000000) (h : ∀ n ∈ l, -9223372036854775808 ≤ n ∧ n ≤ 9223372036854775807) (hi : i < (encI l).length) : (decI ((encI l).take i)).2.2 = 5 := by
  unfold encI at hi ⊢
  rw [List.length_append] at hi
  unfold decI
  by_cases h1 : i < (enc (l.length : Int)).length
  · rw [List.take_append_of_le_length (by omega), decLen_cut 1 l.length i hk h1, if_pos (by simp)]
  · rw [List.take_append, List.take_of_length_le (by omega)]
    by_cases h2 : i - (enc (l.length : Int)).length < l.length
    · rw [decLen_short 1 l.length _ (by omega) hk (by rw [List.length_take]; omega), if_pos (by simp)]
    · rw [decLen_enc 1 l.length _ (by omega) hk (by rw [List.length_take]; omega)]
      simp only
      rw [if_neg (by simp)]
      exact decIs_cut l _ _ h (by omega)

theorem cut16_enc : ∀ (ds : List (List UInt8)) (t : List UInt8), (∀ d ∈ ds, d.length = 16) → cut16 (ds.flatten ++ t) ds.length = ds := by
  intro ds
  induction ds using snoc_ind with
  | h0 => intro t _; rfl
  | h1 r d ih =>
    intro t h
    have hd := h d (by simp)
    have hr : ∀ x ∈ r, x.length = 16 := fun x hx => h x (by simp [hx])
    have hfl : r.flatten.length = r.length * 16 := by
      clear ih h hd
      induction r with
      | nil => rfl
      | cons a r ih2 => rw [List.flatten_cons, List.length_append, hr a (by simp), ih2 (fun x hx => hr x (by simp [hx])), List.length_cons]; omega
    rw [List.length_append, List.length_singleton]
    unfold cut16
    have e : (r ++ [d]).flatten ++ t = r.flatten ++ (d ++ t) := by simp
    rw [e, ih (d ++ t) hr, ← hfl, List.drop_left, ← hd, List.take_left]
theorem flat16 : ∀ ds : List (List UInt8), (∀ d ∈ ds, d.length = 16) → ds.flatten.length = ds.length * 16
  | [], _ => rfl
  | a :: r, h => by rw [List.flatten_cons, List.length_append, h a (by simp), flat16 r (fun x hx => h x (by simp [hx])), List.length_cons]; omega
theorem decD_enc (ds : List (List UInt8)) (t : List UInt8) (hk : ds.length ≤ 1000000000) (h : ∀ d ∈ ds, d.length = 16) : decD (encD ds ++ t) = (ds, (encD ds).length, 0) := by
  have hf := flat16 ds h
  unfold encD decD
  rw [List.append_assoc, decLen_enc 16 ds.length (ds.flatten ++ t) (by omega) hk (by rw [List.length_append]; omega)]
  simp only
  rw [if_neg (by simp), List.drop_left, cut16_enc ds t h, List.length_append, hf, Nat.mul_comm 16]
theorem decD_cut (ds : List (List UInt8)) (i : Nat) (hk : ds.length ≤ 1000000000) (h : ∀ d ∈ ds, d.length = 16) (hi : i < (encD ds).length) : (decD ((encD ds).take i)).2.2 = 5 := by
  have hf := flat16 ds h
  unfold encD at hi ⊢
  rw [List.length_append] at hi
  unfold decD
  by_cases h1 : i < (enc (ds.length : Int)).length
  · rw [List.take_append_of_le_length (by omega), decLen_cut 16 ds.length i hk h1, if_pos (by simp)]
  · rw [List.take_append, List.take_of_length_le (by omega), decLen_short 16 ds.length _ (by omega) hk (by rw [List.length_take]; omega), if_pos (by simp)]

theorem decLen_canon (size : Nat) (_hs : 0 < size) (l : List UInt8) (h : (decLen size l).2.2 = 0) :
    enc ((decLen size l).1 : Int) = l.take (decLen size l).2.1 ∧ (decLen size l).2.1 + (decLen size l).1 * size ≤ l.length := by
  unfold decLen at h ⊢
  by_cases he : (dec l).2.2 = 0
  · obtain ⟨b1, b2, b3, _⟩ := dec_ok l he
    have hc := dec_canon l he
    rw [if_neg (by simp [he])] at h ⊢
    by_cases hn : (dec l).1 < 0
    · rw [if_pos hn] at h; simp at h
    · rw [if_neg hn] at h ⊢
      by_cases hq : (l.length - (dec l).2.1) / size < (dec l).1.toNat
      · rw [if_pos hq] at h; simp at h
      · rw [if_neg hq]
        simp only
        have h1 : (dec l).1.toNat * size ≤ (l.length - (dec l).2.1) / size * size := Nat.mul_le_mul_right _ (by omega)
        have h2 := Nat.div_mul_le_self (l.length - (dec l).2.1) size
        refine ⟨?_, by omega⟩
        rw [show (((dec l).1.toNat : Nat) : Int) = (dec l).1 from by omega]
        exact hc
  · rw [if_pos he] at h; simp at h; exact absurd h he
theorem decB_canon (l : List UInt8) (h : (decB l).2.2 = 0) : encB (decB l).1 = l.take (decB l).2.1 ∧ (decB l).2.1 ≤ l.length := by
  unfold decB at h ⊢
  by_cases he : (decLen 1 l).2.2 = 0
  · obtain ⟨h1, h2⟩ := decLen_canon 1 (by omega) l he
    rw [if_neg (by simp [he])]
    simp only
    have hl : ((l.drop (decLen 1 l).2.1).take (decLen 1 l).1).length = (decLen 1 l).1 := by rw [List.length_take, List.length_drop]; omega
    unfold encB
    rw [hl, h1]
    exact ⟨by rw [List.take_add], by omega⟩
  · rw [if_pos he] at h; simp at h; exact absurd h he
theorem decIs_canon (l : List UInt8) : ∀ (n i : Nat), i ≤ l.length → (decIs l n i).2.2 = 0 →
    (decIs l n i).1.length = n ∧ l.take i ++ (decIs l n i).1.flatMap enc = l.take (decIs l n i).2.1 ∧ (decIs l n i).2.1 ≤ l.length
  | 0, i, hi, _ => by simp [decIs, hi]
  | n + 1, i, hi, h => by
    unfold decIs at h ⊢
    by_cases he : (dec (l.drop i)).2.2 = 0
    · rw [if_neg (by simp [he])] at h ⊢
      obtain ⟨b1, b2, b3, _⟩ := dec_ok _ he
      rw [List.length_drop] at b3
      have hc := dec_canon _ he
      by_cases hg : (decIs l n (i + (dec (l.drop i)).2.1)).2.2 = 0
      · obtain ⟨q1, q2, q3⟩ := decIs_canon l n (i + (dec (l.drop i)).2.1) (by omega) hg
        unfold glue at h ⊢
        rw [if_neg (by simp [hg])]
        simp only [List.singleton_append, List.length_cons, List.flatMap_cons]
        refine ⟨by omega, ?_, q3⟩
        rw [hc, ← q2, List.take_add, List.append_assoc]
      · unfold glue at h
        rw [if_pos hg] at h
        exact absurd h hg
    · rw [if_pos he] at h; exact absurd h he
theorem decI_canon (l : List UInt8) (h : (decI l).2.2 = 0) : encI (decI l).1 = l.take (decI l).2.1 ∧ (decI l).2.1 ≤ l.length := by
  unfold decI at h ⊢
  by_cases he : (decLen 1 l).2.2 = 0
  · obtain ⟨h1, h2⟩ := decLen_canon 1 (by omega) l he
    rw [if_neg (by simp [he])] at h ⊢
    obtain ⟨q1, q2, q3⟩ := decIs_canon l _ _ (by omega) h
    unfold encI
    rw [q1, h1]
    exact ⟨q2, q3⟩
  · rw [if_pos he] at h; simp at h; exact absurd h he
theorem cut16_flat (l : List UInt8) : ∀ n, n * 16 ≤ l.length → (cut16 l n).flatten = l.take (n * 16) ∧ (cut16 l n).length = n
  | 0, _ => by simp [cut16]
  | n + 1, h => by
    obtain ⟨h1, h2⟩ := cut16_flat l n (by omega)
    unfold cut16
    rw [List.flatten_append, List.flatten_singleton, h1, List.length_append, h2, Nat.succ_mul, List.take_add]
    exact ⟨rfl, rfl⟩
theorem decD_canon (l : List UInt8) (h : (decD l).2.2 = 0) : encD (decD l).1 = l.take (decD l).2.1 ∧ (decD l).2.1 ≤ l.length := by
  unfold decD at h ⊢
  by_cases he : (decLen 16 l).2.2 = 0
  · obtain ⟨h1, h2⟩ := decLen_canon 16 (by omega) l he
    rw [if_neg (by simp [he])]
    obtain ⟨q1, q2⟩ := cut16_flat (l.drop (decLen 16 l).2.1) (decLen 16 l).1 (by rw [List.length_drop]; omega)
    simp only
    unfold encD
    rw [q1, q2, h1, Nat.mul_comm 16]
    exact ⟨by rw [List.take_add], by omega⟩
  · rw [if_pos he] at h; simp at h; exact absurd h he

end Go.Proofs.Yticgbohkgjheaaa
