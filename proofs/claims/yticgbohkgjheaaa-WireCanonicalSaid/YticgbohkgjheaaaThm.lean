/-
  What is known of the encodings, as plain mathematics: decoding an encoding, canonical encodings, truncated ones, their order.
-/
import Derived.Test.YticgbohkgjheaaaEnc
namespace Go.Proofs.Yticgbohkgjheaaa

theorem num_be : ∀ m : Nat, m < 256 ^ 9 → num (be m) = m := by
  intro m
  induction m using Nat.strongRecOn with
  | ind m ih =>
    intro h
    by_cases h0 : m = 0
    · subst h0; rw [be_zero]; rfl
    · rw [be_step m h0 h, num_snoc, ih (m / 256) (by omega) (by omega), UInt8.toNat_ofNat']
      omega
theorem be_num : ∀ ds : List UInt8, ds.length ≤ 8 → (be (num ds)).length = ds.length → be (num ds) = ds := by
  intro ds
  induction ds using snoc_ind with
  | h0 => intro _ _; exact be_zero
  | h1 l d ih =>
    intro hl hb
    rw [List.length_append, List.length_singleton] at hl hb
    have hlt := num_lt (l ++ [d])
    have h9 : num (l ++ [d]) < 256 ^ 9 := Nat.lt_of_lt_of_le hlt (Nat.pow_le_pow_right (by omega) (by rw [List.length_append, List.length_singleton]; omega))
    by_cases h0 : num (l ++ [d]) = 0
    · rw [h0, be_zero] at hb; simp at hb
    · rw [be_step _ h0 h9] at hb ⊢
      have e1 : num (l ++ [d]) / 256 = num l := by rw [num_snoc]; have := d.toNat_lt; omega
      have e2 : num (l ++ [d]) % 256 = d.toNat := by rw [num_snoc]; have := d.toNat_lt; omega
      rw [e1, e2] at hb ⊢
      rw [List.length_append, List.length_singleton] at hb
      rw [ih (by omega) (by omega), UInt8.ofNat_toNat]

theorem lead_nat (n : Int) (k : Nat) (hk : k ≤ 8) : (lead n k).toNat = if n < 0 then 127 - k else 128 + k := by
  unfold lead
  split
  · rw [UInt8.toNat_ofNat']; omega
  · rw [UInt8.toNat_ofNat']; omega
theorem dsz_lead (n : Int) (k : Nat) (hk : k ≤ 8) : dsz (lead n k) = k := by
  unfold dsz
  rw [lead_nat n k hk]
  split <;> split <;> omega
theorem lead_neg_iff (n : Int) (k : Nat) (hk : k ≤ 8) : (lead n k).toNat < 128 ↔ n < 0 := by
  rw [lead_nat n k hk]
  split <;> constructor <;> intro h <;> omega
theorem flip_twice (n : Int) (k : Nat) (hk : k ≤ 8) (b : UInt8) : dfl (lead n k) (flip n b) = b := by
  unfold dfl flip
  by_cases h : n < 0
  · rw [if_pos ((lead_neg_iff n k hk).2 h), if_pos h]
    apply UInt8.toNat_inj.1
    have hb := b.toNat_lt
    have h1 : (255 - b : UInt8).toNat = 255 - b.toNat := by
      rw [UInt8.toNat_sub_of_le _ _ (by rw [UInt8.le_iff_toNat_le]; simp; omega)]; simp
    rw [UInt8.toNat_sub_of_le _ _ (by rw [UInt8.le_iff_toNat_le, h1]; simp), h1]
    simp
    omega
  · rw [if_neg (fun q => h ((lead_neg_iff n k hk).1 q)), if_neg h]
theorem of_mag (n : Int) : (if n < 0 then -1 - (mag n : Int) else (mag n : Int)) = n := by
  unfold mag
  split <;> omega

theorem dnum_enc {n : Int} (hn : -9223372036854775808 ≤ n) (hn' : n ≤ 9223372036854775807) (t : List UInt8) : dnum (lead n (be (mag n)).length) ((be (mag n)).map (flip n) ++ t) = mag n := by
  have h8 := be_mag_le n hn hn'
  have hm := mag_lt n hn hn'
  unfold dnum
  rw [dsz_lead n _ h8, List.take_append_of_le_length (by simp), List.take_of_length_le (by simp), List.map_map]
  have e : (dfl (lead n (be (mag n)).length) ∘ flip n) = id := funext fun b => flip_twice n _ h8 b
  rw [e, List.map_id, num_be _ (Nat.lt_trans hm (by decide))]
theorem dec_enc {n : Int} (hn : -9223372036854775808 ≤ n) (hn' : n ≤ 9223372036854775807) (t : List UInt8) : dec (enc n ++ t) = (n, (enc n).length, 0) := by
  have h8 := be_mag_le n hn hn'
  have hm := mag_lt n hn hn'
  have e : enc n ++ t = lead n (be (mag n)).length :: ((be (mag n)).map (flip n) ++ t) := rfl
  rw [e, dec_cons, dnum_enc hn hn', dsz_lead n _ h8, if_neg (by omega), if_neg (by simp), if_neg (by omega)]
  have e2 : (if (lead n (be (mag n)).length).toNat < 128 then -1 - (mag n : Int) else (mag n : Int)) = n := by
    rw [← of_mag n]
    simp only [lead_neg_iff _ _ h8, of_mag]
  rw [e2, enc_len, Nat.add_comm]
theorem dec_cut {n : Int} (hn : -9223372036854775808 ≤ n) (hn' : n ≤ 9223372036854775807) (i : Nat) (hi : i < (enc n).length) : (dec ((enc n).take i)).2.2 = 5 := by
  have h8 := be_mag_le n hn hn'
  rw [enc_len] at hi
  cases i with
  | zero => rfl
  | succ i =>
    have e : (enc n).take (i + 1) = lead n (be (mag n)).length :: ((be (mag n)).map (flip n)).take i := rfl
    rw [e, dec_cons, dsz_lead n _ h8, if_neg (by omega), if_pos (by rw [List.length_take, List.length_map]; omega)]

theorem flip_back (h b : UInt8) (n : Int) (hn : h.toNat < 128 ↔ n < 0) : flip n (dfl h b) = b := by
  unfold dfl flip
  by_cases hh : h.toNat < 128
  · rw [if_pos (hn.1 hh), if_pos hh]
    apply UInt8.toNat_inj.1
    have hb := b.toNat_lt
    have h1 : (255 - b : UInt8).toNat = 255 - b.toNat := by
      rw [UInt8.toNat_sub_of_le _ _ (by rw [UInt8.le_iff_toNat_le]; simp; omega)]; simp
    rw [UInt8.toNat_sub_of_le _ _ (by rw [UInt8.le_iff_toNat_le, h1]; simp), h1]
    simp
    omega
  · rw [if_neg (fun q => hh (hn.2 q)), if_neg hh]
theorem dec_canon (l : List UInt8) (h : (dec l).2.2 = 0) : enc (dec l).1 = l.take (dec l).2.1 := by
  cases l with
  | nil => simp [dec] at h
  | cons a t =>
    rw [dec_cons] at h ⊢
    by_cases h1 : 8 < dsz a
    · rw [if_pos h1] at h; simp at h
    · rw [if_neg h1] at h ⊢
      by_cases h2 : t.length < dsz a
      · rw [if_pos h2] at h; simp at h
      · rw [if_neg h2] at h ⊢
        by_cases h3 : dsz a ≠ (be (dnum a t)).length ∨ 9223372036854775807 < dnum a t
        · rw [if_pos h3] at h; simp at h
        · rw [if_neg h3]
          simp only
          have hsz : dsz a = (be (dnum a t)).length := by omega
          generalize hn : (if a.toNat < 128 then -1 - (dnum a t : Int) else (dnum a t : Int)) = n
          have hneg : a.toNat < 128 ↔ n < 0 := by rw [← hn]; split <;> constructor <;> intro h <;> omega
          have hmag : mag n = dnum a t := by
            unfold mag
            by_cases hh : a.toNat < 128
            · rw [if_pos (hneg.1 hh)]; rw [if_pos hh] at hn; omega
            · rw [if_neg (fun q => hh (hneg.2 q))]; rw [if_neg hh] at hn; omega
          have hds : be (dnum a t) = (t.take (dsz a)).map (dfl a) := by
            have hlen : ((t.take (dsz a)).map (dfl a)).length = dsz a := by rw [List.length_map, List.length_take]; omega
            exact be_num _ (by omega) (by rw [hlen]; exact hsz.symm)
          have hlead : lead n (dsz a) = a := by
            apply UInt8.toNat_inj.1
            rw [lead_nat n _ (by omega)]
            have ha := a.toNat_lt
            by_cases hh : a.toNat < 128
            · rw [if_pos (hneg.1 hh)]
              have : dsz a = 127 - a.toNat := by unfold dsz; rw [if_pos hh]
              omega
            · rw [if_neg (fun q => hh (hneg.2 q))]
              have : dsz a = a.toNat - 128 := by unfold dsz; rw [if_neg hh]
              omega
          unfold enc
          rw [hmag, ← hsz, hlead, hds, List.map_map, Nat.add_comm, List.take_succ_cons]
          have e : (flip n ∘ dfl a) = id := funext fun b => flip_back a b n hneg
          rw [e, List.map_id]

end Go.Proofs.Yticgbohkgjheaaa
