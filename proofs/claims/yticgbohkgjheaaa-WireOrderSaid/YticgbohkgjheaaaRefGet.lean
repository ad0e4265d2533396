/-
  The reference's decoding of an integer, walked: GetInt.
-/
import Derived.Test.YticgbohkgjheaaaVR
import Derived.Deep.RegionWith
namespace Go.Proofs.Yticgbohkgjheaaa
open Go.RowKit
set_option linter.unusedVariables false

theorem num_more (l r : List UInt8) : num l ≤ num (l ++ r) := by
  induction r using snoc_ind with
  | h0 => simp
  | h1 r d ih => rw [← List.append_assoc, num_snoc]; omega
theorem num_go (f : UInt8 → UInt8) (hd : UInt8) (tl : List UInt8) (i : Nat) (h1 : 1 ≤ i) (h2 : i < (hd :: tl).length) : num ((tl.take i).map f) = num ((tl.take (i - 1)).map f) * 256 + (f (hd :: tl)[i]).toNat := by
  obtain ⟨j, rfl⟩ : ∃ j, i = j + 1 := ⟨i - 1, by omega⟩
  have hj : j < tl.length := by simpa using h2
  rw [Nat.add_sub_cancel, take_snoc _ _ hj, List.map_append, List.map_singleton, num_snoc]
  rfl
theorem num_take (l : List UInt8) (j s : Nat) (h : j ≤ s) : num (l.take j) ≤ num (l.take s) := by
  have : l.take s = l.take j ++ (l.take s).drop j := by
    have := (List.take_append_drop j (l.take s)).symm
    rwa [List.take_take, Nat.min_eq_left h] at this
  rw [this]
  exact num_more _ _
/-- Where the digits are the shortest, and only there, the integer's encoding is what was read. -/
theorem canon_iff (hd : UInt8) (tl : List UInt8) (s m : Nat) (n : Int) (hs : dsz hd = s) (h8 : s ≤ 8) (hle : s ≤ tl.length) (hm : dnum hd tl = m) (hb : ¬ 9223372036854775807 < m) (hn : n = if hd.toNat < 128 then -1 - (m : Int) else (m : Int)) :
    enc n = (hd :: tl).take (s + 1) ↔ s = (be m).length := by
  constructor
  · intro h
    have h1 : (enc n).length = ((hd :: tl).take (s + 1)).length := by rw [h]
    rw [enc_len, List.length_take, List.length_cons] at h1
    have h2 : mag n = m := by
      unfold mag
      subst hn
      split <;> split <;> omega
    rw [h2] at h1
    omega
  · intro h
    have h1 : dec (hd :: tl) = (n, 1 + s, 0) := by
      rw [dec_cons, hs, hm, if_neg (by omega), if_neg (by omega), if_neg (by omega), ← hn]
    have h2 := dec_canon (hd :: tl) (by rw [h1])
    rw [h1] at h2
    rw [h2, Nat.add_comm]

set_option maxHeartbeats 400000 in
set_option maxRecDepth 100000 in
theorem refGetInt_nil (A : Option Addr) (cap : Nat) (w : World) :
    Calls Try.prog 22 #[.slice A 0 cap] w fun e w' => e = .returned (decV (dec [])) ∧ Below w.heap.size w w' := by
  go_enter Try.func22, Try.ntmps22
  go_wp2
  go_ret3
  exact ⟨rfl, Below.refl _ _⟩

set_option maxHeartbeats 400000 in
set_option maxRecDepth 100000 in
theorem refGetInt_neg_short (A : Option Addr) (B cap s : Nat) (hd : UInt8) (tl : List UInt8) (w : World) (hx : Sl w B A 1 (hd :: tl).length ((hd :: tl).map bv)) (hlc : (hd :: tl).length ≤ cap) (hc : cap ≤ maxLen)
    (hs1 : hd.toNat + s ≤ 127) (hs2 : 127 ≤ hd.toNat + s) (hbad : 8 < s ∨ tl.length < s) :
    Calls Try.prog 22 #[.slice A (hd :: tl).length cap] w fun e w' => e = .returned (decV (0, 0, if 8 < s then 6 else 5)) ∧ Below w.heap.size w w' := by
  unfold maxLen at hc
  obtain ⟨b, off, rfl, hb, hc0⟩ := hx.byte (k := 0) (by simp)
  simp only [List.getElem_cons_zero, Nat.add_zero] at hc0
  simp only [List.length_cons] at hlc ⊢
  clear hx
  have hd256 : hd.toNat < 256 := hd.toNat_lt
  by_cases h8 : 8 < s
  · rw [if_pos h8]
    go_enter Try.func22, Try.ntmps22
    go_wp2
    all_goals go_ret3
    all_goals exact ⟨rfl, Below.refl _ _⟩
  · rw [if_neg h8]
    have hsh : tl.length < s := by omega
    go_enter Try.func22, Try.ntmps22
    go_wp2
    all_goals go_ret3
    all_goals exact ⟨rfl, Below.refl _ _⟩

set_option maxHeartbeats 1000000 in
set_option maxRecDepth 100000 in
theorem refGetInt_neg (A : Option Addr) (cap s : Nat) (hd : UInt8) (tl : List UInt8) (w : World) (hx : Sl w w.heap.size A 1 (hd :: tl).length ((hd :: tl).map bv)) (hlc : (hd :: tl).length ≤ cap) (hc : cap ≤ maxLen) (hsm : (hd :: tl).length ≤ 1000000000)
    (hs1 : hd.toNat + s ≤ 127) (hs2 : 127 ≤ hd.toNat + s) (h8 : s ≤ 8) (hle : s ≤ tl.length) (r : Int × Nat × Nat) (m : Nat) (hr : r = if s ≠ (be m).length ∨ 9223372036854775807 < m then (0, 0, 6) else (-1 - (m : Int), s + 1, 0)) (hm : num ((tl.take s).map (fun x : UInt8 => 255 - x)) = m)
    (hcan : ¬ 9223372036854775807 < m → (enc (-1 - (m : Int)) = (hd :: tl).take (s + 1) ↔ s = (be m).length)) :
    Calls Try.prog 22 #[.slice A (hd :: tl).length cap] w fun e w' =>
      e = .returned (decV r) ∧ Below w.heap.size w w' := by
  have hc' := hc
  unfold maxLen at hc
  have HX := hideIt hx
  have HM := hideIt hm
  have HR := hideIt hr
  have HCAN := hideIt hcan
  obtain ⟨b, off, rfl, hb, hc0⟩ := hx.byte (k := 0) (by simp)
  simp only [List.getElem_cons_zero, Nat.add_zero] at hc0
  simp only [List.length_cons] at hlc hsm ⊢
  clear hx hm hr hcan
  have HE1 := hideIt (show 127 - (hd.toNat : Int) = (s : Int) from by omega)
  go_enter Try.func22, Try.ntmps22
  go_wp2
  simp only [HE1.out]
  have hylen : ((hd :: tl).take (s + 1)).length = s + 1 := by rw [List.length_take, List.length_cons]; omega
  have hSame : ∀ (n : Int) (w1 : World) (Ax : Option Addr) (ca : Nat), Sl w1 w1.heap.size Ax 1 (enc n).length ((enc n).map bv) → (enc n).length ≤ 9 → Below w.heap.size w w1 →
      Calls Try.prog 12 #[.slice Ax (enc n).length ca, .slice (some ⟨b, off, none⟩) (s + 1) cap] w1 fun e w' => e = .returned (.bool (decide (enc n = (hd :: tl).take (s + 1)))) ∧ ∃ n, w' = w1.drewN n := by
    intro n w1 Ax ca h1 h2 h3
    have hq := (HX.out.below h3).take (k := s + 1) (by simp; omega)
    rw [Nat.mul_one, ← List.map_take] at hq
    have := same_any Ax (some ⟨b, off, none⟩) _ _ ca cap (enc n) ((hd :: tl).take (s + 1)) w1 h1 (by rw [hylen]; exact hq) (by omega) (by omega)
    rwa [hylen] at this
  have HSAME := hideIt hSame
  clear hSame hylen
  go_loopg [7, 8] (s + 1) (fun g s7 s8 wr => ∃ i q : Nat, g + i = s + 2 ∧ 1 ≤ i ∧ Hid (i ≤ s + 1) ∧ s7 = .int .i64 q ∧ s8 = .int .i64 i ∧ q < 9223372036854775808 ∧ Hid (num ((tl.take (i - 1)).map (fun x : UInt8 => 255 - x)) = q) ∧ w = wr)
  case atStart => exact ⟨1, 0, by omega, by omega, (by omega : 1 ≤ s + 1), rfl, rfl, by omega, rfl, rfl⟩
  case round =>
    obtain ⟨i, q, hg, hi1, HI, rfl, rfl, hq, HQ, rfl⟩ := hrel
    by_cases hi : i ≤ s
    · have hil : i < (hd :: tl).length := by simp; omega
      obtain ⟨d, hdd⟩ : ∃ d, d = (hd :: tl)[i] := ⟨_, rfl⟩
      have hci : w.cell? ⟨b, off + i, none⟩ = some (bv d) := by
        obtain ⟨b', off', e, _, hcc⟩ := HX.out.byte (k := i) hil
        injection e with e
        injection e with e1 e2
        subst e1 e2
        rw [hcc, hdd]
      have hnum := num_go (fun x : UInt8 => 255 - x) hd tl i hi1 hil
      rw [HQ.out, ← hdd] at hnum
      have hdu := d.toNat_lt
      have hfd : (255 - d : UInt8).toNat = 255 - d.toNat := by rw [UInt8.toNat_sub_of_le _ _ (by rw [UInt8.le_iff_toNat_le]; simp; omega)]; simp
      try simp only at hnum
      rw [hfd] at hnum
      have HD := hideIt hdd
      by_cases hbig : 36028797018963967 < q
      · have hmm := num_take (tl.map (fun x : UInt8 => 255 - x)) i s hi
        rw [← List.map_take, ← List.map_take, hnum, HM.out] at hmm
        have HV := hideIt (HR.out.trans (if_pos (Or.inr (by omega))))
        clear hnum hfd hdd hmm
        go_wp2
        go_ret3
        exact ⟨by rw [HV.out]; rfl, Below.refl _ _⟩
      · have HN := hideIt hnum
        clear hnum hfd hdd
        go_wp2
        go_roundg (gk - 1)
        case measure => omega
        case rel => exact ⟨i + 1, q * 256 + (255 - d.toNat), by omega, by omega, (by omega : i + 1 ≤ s + 1), by go_num, by go_num, by omega, HN, rfl⟩
    · have his : i = s + 1 := by have := HI.out; omega
      subst his
      have hqm : q = m := HQ.out.symm.trans HM.out
      subst hqm
      have hcan := HCAN.out (by omega)
      have hle9 := enc_le (-1 - (q : Int)) (by omega) (by omega)
      by_cases hbl : s = (be q).length
      · have HV := hideIt (HR.out.trans (if_neg (by omega)))
        have HDC := hideIt (decide_eq_true (hcan.2 hbl))
        clear hcan hbl HCAN HQ HM HR
        go_wp2
        have hwrap : IntKind.i64.wrap ((s : Int) + 1) = (s : Int) + 1 := by rw [IntKind.wrap_i64]; omega
        have hcd1 : 0 ≤ (s : Int) + 1 := by omega
        have hcd2 : (s : Int) + 1 ≤ (cap : Int) := by omega
        go_region_with (first
          | (go_at_call 14; refine (refInt_v (-1 - (q : Int)) _ (by omega) (by omega)).mono ?_; rintro e w1 ⟨A1, c1, rfl, ga, ha, hb⟩; have SA := hideIt ha; have BA := hideIt (((Below.refl w.heap.size w).drew).trans hb); clear ha hb)
          | (go_at_call 12; refine (HSAME.out (-1 - (q : Int)) w1 A1 c1 SA.out hle9 BA.out).mono ?_; rw [HDC.out]; rintro e w' ⟨rfl, n1, rfl⟩))
        all_goals go_wp2
        all_goals go_ret3
        all_goals exact ⟨by rw [HV.out]; rfl, below_drewN BA.out _⟩
      · have HV := hideIt (HR.out.trans (if_pos (Or.inl hbl)))
        have HDC := hideIt (decide_eq_false (fun h => hbl (hcan.1 h)))
        clear hcan hbl HCAN HQ HM HR
        go_wp2
        have hwrap : IntKind.i64.wrap ((s : Int) + 1) = (s : Int) + 1 := by rw [IntKind.wrap_i64]; omega
        have hcd1 : 0 ≤ (s : Int) + 1 := by omega
        have hcd2 : (s : Int) + 1 ≤ (cap : Int) := by omega
        go_region_with (first
          | (go_at_call 14; refine (refInt_v (-1 - (q : Int)) _ (by omega) (by omega)).mono ?_; rintro e w1 ⟨A1, c1, rfl, ga, ha, hb⟩; have SA := hideIt ha; have BA := hideIt (((Below.refl w.heap.size w).drew).trans hb); clear ha hb)
          | (go_at_call 12; refine (HSAME.out (-1 - (q : Int)) w1 A1 c1 SA.out hle9 BA.out).mono ?_; rw [HDC.out]; rintro e w' ⟨rfl, n1, rfl⟩))
        all_goals go_wp2
        all_goals go_ret3
        all_goals exact ⟨by rw [HV.out]; rfl, below_drewN BA.out _⟩

set_option maxHeartbeats 400000 in
set_option maxRecDepth 100000 in
theorem refGetInt_pos_short (A : Option Addr) (B cap s : Nat) (hd : UInt8) (tl : List UInt8) (w : World) (hx : Sl w B A 1 (hd :: tl).length ((hd :: tl).map bv)) (hlc : (hd :: tl).length ≤ cap) (hc : cap ≤ maxLen)
    (hs1 : hd.toNat ≤ 128 + s) (hs2 : 128 + s ≤ hd.toNat) (hbad : 8 < s ∨ tl.length < s) :
    Calls Try.prog 22 #[.slice A (hd :: tl).length cap] w fun e w' => e = .returned (decV (0, 0, if 8 < s then 6 else 5)) ∧ Below w.heap.size w w' := by
  unfold maxLen at hc
  obtain ⟨b, off, rfl, hb, hc0⟩ := hx.byte (k := 0) (by simp)
  simp only [List.getElem_cons_zero, Nat.add_zero] at hc0
  simp only [List.length_cons] at hlc ⊢
  clear hx
  have hd256 : hd.toNat < 256 := hd.toNat_lt
  by_cases h8 : 8 < s
  · rw [if_pos h8]
    go_enter Try.func22, Try.ntmps22
    go_wp2
    all_goals go_ret3
    all_goals exact ⟨rfl, Below.refl _ _⟩
  · rw [if_neg h8]
    have hsh : tl.length < s := by omega
    go_enter Try.func22, Try.ntmps22
    go_wp2
    all_goals go_ret3
    all_goals exact ⟨rfl, Below.refl _ _⟩

set_option maxHeartbeats 1000000 in
set_option maxRecDepth 100000 in
theorem refGetInt_pos (A : Option Addr) (cap s : Nat) (hd : UInt8) (tl : List UInt8) (w : World) (hx : Sl w w.heap.size A 1 (hd :: tl).length ((hd :: tl).map bv)) (hlc : (hd :: tl).length ≤ cap) (hc : cap ≤ maxLen) (hsm : (hd :: tl).length ≤ 1000000000)
    (hs1 : hd.toNat ≤ 128 + s) (hs2 : 128 + s ≤ hd.toNat) (h8 : s ≤ 8) (hle : s ≤ tl.length) (r : Int × Nat × Nat) (m : Nat) (hr : r = if s ≠ (be m).length ∨ 9223372036854775807 < m then (0, 0, 6) else ((m : Int), s + 1, 0)) (hm : num ((tl.take s).map (fun x : UInt8 => x)) = m)
    (hcan : ¬ 9223372036854775807 < m → (enc ((m : Int)) = (hd :: tl).take (s + 1) ↔ s = (be m).length)) :
    Calls Try.prog 22 #[.slice A (hd :: tl).length cap] w fun e w' =>
      e = .returned (decV r) ∧ Below w.heap.size w w' := by
  have hc' := hc
  unfold maxLen at hc
  have HX := hideIt hx
  have HM := hideIt hm
  have HR := hideIt hr
  have HCAN := hideIt hcan
  obtain ⟨b, off, rfl, hb, hc0⟩ := hx.byte (k := 0) (by simp)
  simp only [List.getElem_cons_zero, Nat.add_zero] at hc0
  simp only [List.length_cons] at hlc hsm ⊢
  clear hx hm hr hcan
  have HE1 := hideIt (show (hd.toNat : Int) - 128 = (s : Int) from by omega)
  go_enter Try.func22, Try.ntmps22
  go_wp2
  simp only [HE1.out]
  have hylen : ((hd :: tl).take (s + 1)).length = s + 1 := by rw [List.length_take, List.length_cons]; omega
  have hSame : ∀ (n : Int) (w1 : World) (Ax : Option Addr) (ca : Nat), Sl w1 w1.heap.size Ax 1 (enc n).length ((enc n).map bv) → (enc n).length ≤ 9 → Below w.heap.size w w1 →
      Calls Try.prog 12 #[.slice Ax (enc n).length ca, .slice (some ⟨b, off, none⟩) (s + 1) cap] w1 fun e w' => e = .returned (.bool (decide (enc n = (hd :: tl).take (s + 1)))) ∧ ∃ n, w' = w1.drewN n := by
    intro n w1 Ax ca h1 h2 h3
    have hq := (HX.out.below h3).take (k := s + 1) (by simp; omega)
    rw [Nat.mul_one, ← List.map_take] at hq
    have := same_any Ax (some ⟨b, off, none⟩) _ _ ca cap (enc n) ((hd :: tl).take (s + 1)) w1 h1 (by rw [hylen]; exact hq) (by omega) (by omega)
    rwa [hylen] at this
  have HSAME := hideIt hSame
  clear hSame hylen
  go_loopg [7, 8] (s + 1) (fun g s7 s8 wr => ∃ i q : Nat, g + i = s + 2 ∧ 1 ≤ i ∧ Hid (i ≤ s + 1) ∧ s7 = .int .i64 q ∧ s8 = .int .i64 i ∧ q < 9223372036854775808 ∧ Hid (num ((tl.take (i - 1)).map (fun x : UInt8 => x)) = q) ∧ w = wr)
  case atStart => exact ⟨1, 0, by omega, by omega, (by omega : 1 ≤ s + 1), rfl, rfl, by omega, rfl, rfl⟩
  case round =>
    obtain ⟨i, q, hg, hi1, HI, rfl, rfl, hq, HQ, rfl⟩ := hrel
    by_cases hi : i ≤ s
    · have hil : i < (hd :: tl).length := by simp; omega
      obtain ⟨d, hdd⟩ : ∃ d, d = (hd :: tl)[i] := ⟨_, rfl⟩
      have hci : w.cell? ⟨b, off + i, none⟩ = some (bv d) := by
        obtain ⟨b', off', e, _, hcc⟩ := HX.out.byte (k := i) hil
        injection e with e
        injection e with e1 e2
        subst e1 e2
        rw [hcc, hdd]
      have hnum := num_go (fun x : UInt8 => x) hd tl i hi1 hil
      rw [HQ.out, ← hdd] at hnum
      have hdu := d.toNat_lt
      have hfd : d.toNat = d.toNat := rfl
      try simp only at hnum
      rw [hfd] at hnum
      have HD := hideIt hdd
      by_cases hbig : 36028797018963967 < q
      · have hmm := num_take (tl.map (fun x : UInt8 => x)) i s hi
        rw [← List.map_take, ← List.map_take, hnum, HM.out] at hmm
        have HV := hideIt (HR.out.trans (if_pos (Or.inr (by omega))))
        clear hnum hfd hdd hmm
        go_wp2
        go_ret3
        exact ⟨by rw [HV.out]; rfl, Below.refl _ _⟩
      · have HN := hideIt hnum
        clear hnum hfd hdd
        go_wp2
        go_roundg (gk - 1)
        case measure => omega
        case rel => exact ⟨i + 1, q * 256 + d.toNat, by omega, by omega, (by omega : i + 1 ≤ s + 1), by go_num, by go_num, by omega, HN, rfl⟩
    · have his : i = s + 1 := by have := HI.out; omega
      subst his
      have hqm : q = m := HQ.out.symm.trans HM.out
      subst hqm
      have hcan := HCAN.out (by omega)
      have hle9 := enc_le ((q : Int)) (by omega) (by omega)
      by_cases hbl : s = (be q).length
      · have HV := hideIt (HR.out.trans (if_neg (by omega)))
        have HDC := hideIt (decide_eq_true (hcan.2 hbl))
        clear hcan hbl HCAN HQ HM HR
        go_wp2
        have hwrap : IntKind.i64.wrap ((s : Int) + 1) = (s : Int) + 1 := by rw [IntKind.wrap_i64]; omega
        have hcd1 : 0 ≤ (s : Int) + 1 := by omega
        have hcd2 : (s : Int) + 1 ≤ (cap : Int) := by omega
        go_region_with (first
          | (go_at_call 14; refine (refInt_v ((q : Int)) _ (by omega) (by omega)).mono ?_; rintro e w1 ⟨A1, c1, rfl, ga, ha, hb⟩; have SA := hideIt ha; have BA := hideIt (((Below.refl w.heap.size w).drew).trans hb); clear ha hb)
          | (go_at_call 12; refine (HSAME.out ((q : Int)) w1 A1 c1 SA.out hle9 BA.out).mono ?_; rw [HDC.out]; rintro e w' ⟨rfl, n1, rfl⟩))
        all_goals go_wp2
        all_goals go_ret3
        all_goals exact ⟨by rw [HV.out]; rfl, below_drewN BA.out _⟩
      · have HV := hideIt (HR.out.trans (if_pos (Or.inl hbl)))
        have HDC := hideIt (decide_eq_false (fun h => hbl (hcan.1 h)))
        clear hcan hbl HCAN HQ HM HR
        go_wp2
        have hwrap : IntKind.i64.wrap ((s : Int) + 1) = (s : Int) + 1 := by rw [IntKind.wrap_i64]; omega
        have hcd1 : 0 ≤ (s : Int) + 1 := by omega
        have hcd2 : (s : Int) + 1 ≤ (cap : Int) := by omega
        go_region_with (first
          | (go_at_call 14; refine (refInt_v ((q : Int)) _ (by omega) (by omega)).mono ?_; rintro e w1 ⟨A1, c1, rfl, ga, ha, hb⟩; have SA := hideIt ha; have BA := hideIt (((Below.refl w.heap.size w).drew).trans hb); clear ha hb)
          | (go_at_call 12; refine (HSAME.out ((q : Int)) w1 A1 c1 SA.out hle9 BA.out).mono ?_; rw [HDC.out]; rintro e w' ⟨rfl, n1, rfl⟩))
        all_goals go_wp2
        all_goals go_ret3
        all_goals exact ⟨by rw [HV.out]; rfl, below_drewN BA.out _⟩

theorem refGetInt_any (A : Option Addr) (cap : Nat) (l : List UInt8) (w : World) (hx : Sl w w.heap.size A 1 l.length (l.map bv)) (hlc : l.length ≤ cap) (hc : cap ≤ maxLen) (hsm : l.length ≤ 1000000000) :
    Calls Try.prog 22 #[.slice A l.length cap] w fun e w' => e = .returned (decV (dec l)) ∧ Below w.heap.size w w' := by
  cases l with
  | nil => exact refGetInt_nil A cap w
  | cons hd tl =>
    by_cases hn : hd.toNat < 128
    · have hs : dsz hd = 127 - hd.toNat := by unfold dsz; rw [if_pos hn]
      by_cases hbad : 8 < dsz hd ∨ tl.length < dsz hd
      · have e : dec (hd :: tl) = (0, 0, if 8 < dsz hd then 6 else 5) := by
          rw [dec_cons]
          by_cases h8 : 8 < dsz hd
          · rw [if_pos h8, if_pos h8]
          · rw [if_neg h8, if_neg h8, if_pos (by omega)]
        rw [e]
        exact refGetInt_neg_short A _ cap (dsz hd) hd tl w hx hlc hc (by omega) (by omega) hbad
      · refine refGetInt_neg A cap (dsz hd) hd tl w hx hlc hc hsm (by omega) (by omega) (by omega) (by omega) _ (dnum hd tl) ?_ ?_ fun hb => canon_iff hd tl (dsz hd) (dnum hd tl) _ rfl (by omega) (by omega) rfl hb (if_pos hn).symm
        · rw [dec_cons]
          rw [if_neg (by omega), if_neg (by omega), if_pos hn, Nat.add_comm 1]
        · unfold dnum
          congr 2
          funext x
          unfold dfl
          rw [if_pos hn]
    · have hs : dsz hd = hd.toNat - 128 := by unfold dsz; rw [if_neg hn]
      by_cases hbad : 8 < dsz hd ∨ tl.length < dsz hd
      · have e : dec (hd :: tl) = (0, 0, if 8 < dsz hd then 6 else 5) := by
          rw [dec_cons]
          by_cases h8 : 8 < dsz hd
          · rw [if_pos h8, if_pos h8]
          · rw [if_neg h8, if_neg h8, if_pos (by omega)]
        rw [e]
        exact refGetInt_pos_short A _ cap (dsz hd) hd tl w hx hlc hc (by omega) (by omega) hbad
      · refine refGetInt_pos A cap (dsz hd) hd tl w hx hlc hc hsm (by omega) (by omega) (by omega) (by omega) _ (dnum hd tl) ?_ ?_ fun hb => canon_iff hd tl (dsz hd) (dnum hd tl) _ rfl (by omega) (by omega) rfl hb (if_neg hn).symm
        · rw [dec_cons]
          rw [if_neg (by omega), if_neg (by omega), if_neg hn, Nat.add_comm 1]
        · unfold dnum
          congr 2
          funext x
          unfold dfl
          rw [if_neg hn]
theorem refGetInt_c (A : Option Addr) (cap : Nat) (l : List UInt8) (w : World) (hx : Sl w w.heap.size A 1 l.length (l.map bv)) (hlc : l.length ≤ cap) (hc : cap ≤ maxLen) (hsm : l.length ≤ 1000000000) (n : Int) (u e : Nat) (hd : dec l = (n, u, e)) :
    Calls Try.prog 22 #[.slice A l.length cap] w fun x w' => x = .returned (.tuple #[.int .i64 n, .int .i64 (u : Int), .int .i64 (e : Int)]) ∧ Below w.heap.size w w' := by
  refine (refGetInt_any A cap l w hx hlc hc hsm).mono ?_
  rintro x w' ⟨rfl, hb⟩
  rw [hd]
  exact ⟨rfl, hb⟩

end Go.Proofs.Yticgbohkgjheaaa
