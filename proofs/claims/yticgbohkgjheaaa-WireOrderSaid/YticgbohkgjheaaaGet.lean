/-
  The decoding of an integer, walked: wire.GetInt.
-/
import Derived.Test.YticgbohkgjheaaaRows
import Derived.Test.YticgbohkgjheaaaLib
import Derived.Test.YticgbohkgjheaaaLen
import Derived.Deep.LoopGhost
namespace Go.Proofs.Yticgbohkgjheaaa
open Go.RowKit
set_option linter.unusedVariables false

def decV (r : Int × Nat × Nat) : Value := .tuple #[.int .i64 r.1, .int .i64 (r.2.1 : Int), .int .i64 (r.2.2 : Int)]

set_option maxHeartbeats 400000 in
set_option maxRecDepth 100000 in
theorem getInt_nil (A : Option Addr) (cap : Nat) (w : World) :
    Calls Try.prog 21 #[.slice A 0 cap] w fun e w' => e = .returned (decV (dec [])) ∧ w = w' := by
  go_enter Try.func21, Try.ntmps21
  go_wp2
  go_ret3
  exact ⟨rfl, rfl⟩

set_option maxHeartbeats 400000 in
set_option maxRecDepth 100000 in
theorem getInt_neg_short (A : Option Addr) (B cap s : Nat) (hd : UInt8) (tl : List UInt8) (w : World) (hx : Sl w B A 1 (hd :: tl).length ((hd :: tl).map bv)) (hlc : (hd :: tl).length ≤ cap) (hc : cap ≤ maxLen)
    (hs1 : hd.toNat + s ≤ 127) (hs2 : 127 ≤ hd.toNat + s) (hbad : 8 < s ∨ tl.length < s) :
    Calls Try.prog 21 #[.slice A (hd :: tl).length cap] w fun e w' => e = .returned (decV (0, 0, if 8 < s then 6 else 5)) ∧ w = w' := by
  unfold maxLen at hc
  have HX := hideIt hx
  obtain ⟨b, off, rfl, hb, hc0⟩ := hx.byte (k := 0) (by simp)
  simp only [List.getElem_cons_zero, Nat.add_zero] at hc0
  simp only [List.length_cons] at hlc ⊢
  clear hx
  by_cases h8 : 8 < s
  · rw [if_pos h8]
    have hd256 : hd.toNat < 256 := hd.toNat_lt
    go_enter Try.func21, Try.ntmps21
    go_wp2
    go_ret3
    exact ⟨rfl, rfl⟩
  · rw [if_neg h8]
    have hsh : tl.length < s := by omega
    go_enter Try.func21, Try.ntmps21
    go_wp2
    go_ret3
    exact ⟨rfl, rfl⟩

set_option maxHeartbeats 1000000 in
set_option maxRecDepth 100000 in
theorem getInt_neg (A : Option Addr) (B cap s : Nat) (hd : UInt8) (tl : List UInt8) (w : World) (hx : Sl w B A 1 (hd :: tl).length ((hd :: tl).map bv)) (hlc : (hd :: tl).length ≤ cap) (hc : cap ≤ maxLen)
    (hs1 : hd.toNat + s ≤ 127) (hs2 : 127 ≤ hd.toNat + s) (h8 : s ≤ 8) (hle : s ≤ tl.length) (r : Int × Nat × Nat) (m : Nat) (hr : r = if s ≠ (be m).length ∨ 9223372036854775807 < m then (0, 0, 6) else (-1 - (m : Int), 1 + s, 0)) (hm : num ((tl.take s).map (fun x : UInt8 => 255 - x)) = m) :
    Calls Try.prog 21 #[.slice A (hd :: tl).length cap] w fun e w' =>
      e = .returned (decV r) ∧ w = w' := by
  unfold maxLen at hc
  have HX := hideIt hx
  have HM := hideIt hm
  have HR := hideIt hr
  obtain ⟨b, off, rfl, hb, hc0⟩ := hx.byte (k := 0) (by simp)
  simp only [List.getElem_cons_zero, Nat.add_zero] at hc0
  simp only [List.length_cons] at hlc ⊢
  clear hx hm hr
  have E1 : (-1 - ((hd.toNat : Int) - 128)) = (s : Int) := by omega
  have E4 : hd.toNat = hd.toNat := by omega
  have E2 : (1 + (s : Int)).toNat - 1 = s := by omega
  have HE1 := hideIt E1
  have HE2 := hideIt E2
  have HE3 := hideIt (show 1 + (hd.toNat - 128) - 1 = hd.toNat - 128 from by omega)
  have HE4 := hideIt E4
  clear E1 E2 E4
  go_enter Try.func21, Try.ntmps21
  by_cases hz : 0 < s
  · skip
    go_wp2
    all_goals
      try simp only [HE1.out]
      try simp only [HE2.out]
      try simp only [HE3.out]
      try simp only [HE4.out]
      go_loopg [7, 35] s (fun g s7 s35 wr => ∃ k q : Nat, g + k = s ∧ s7 = .int .u64 q ∧ Hid (num ((tl.take k).map (fun x : UInt8 => 255 - x)) = q) ∧ s35 = .int .i64 k ∧ w = wr)
      case atStart => exact ⟨0, 0, by omega, rfl, rfl, rfl, rfl⟩
      case round =>
        obtain ⟨k, q, hg, rfl, HQ, rfl, rfl⟩ := hrel
        by_cases hk : k < s
        · have hkt : k < tl.length := by omega
          have hck : w.cell? ⟨b, off + 1 + k, none⟩ = some (bv tl[k]) := by
            obtain ⟨b', off', e, _, hcc⟩ := HX.out.byte (k := k + 1) (by simp; omega)
            injection e with e
            injection e with e1 e2
            subst e1 e2
            rw [show off + 1 + k = off + (k + 1) by omega, hcc]
            rfl
          have hq : q < 72057594037927936 := by
            have := num_lt ((tl.take k).map (fun x : UInt8 => 255 - x))
            rw [HQ.out, List.length_map, List.length_take] at this
            exact Nat.lt_of_lt_of_le this (Nat.pow_le_pow_right (n := 256) (j := 7) (by omega) (by omega))
          go_wp2
          all_goals
            go_roundg (gk - 1)
            case measure => omega
            case rel =>
              refine ⟨k + 1, num ((tl.take (k + 1)).map (fun x : UInt8 => 255 - x)), by omega, ?_, rfl, by go_num, rfl⟩
              rw [take_snoc _ _ hkt, List.map_append, List.map_singleton, num_snoc, HQ.out]
              have hor := or_flip q tl[k] hq
              exact congrArg (Value.int .u64) hor
        · have hks : k = s := by omega
          subst hks
          have hqm : q = m := HQ.out.symm.trans HM.out
          subst hqm
          have hq64 : q < 18446744073709551616 := by
            have := num_lt ((tl.take k).map (fun x : UInt8 => 255 - x))
            rw [HQ.out, List.length_map, List.length_take] at this
            exact Nat.lt_of_lt_of_le this (Nat.pow_le_pow_right (n := 256) (j := 8) (by omega) (by omega))
          by_cases hbl : k = (be q).length
          · by_cases hbig : 9223372036854775807 < q
            · have HV := hideIt (HR.out.trans (if_pos (Or.inr hbig)))
              go_wp2_with (go_at_call 33; refine (len64_any q hq64 _).mono ?_; rintro e w' ⟨z, rfl, hz1, hz2, rfl⟩; have T1 : ((k : Int) != ((z : Int) + 7) / 8) = false := (by rw [bne_eq_false_iff_eq]; omega); have HZ := hideIt hz2; have HB := hideIt hbl; clear hz2 hbl)
              all_goals go_ret3
              all_goals exact ⟨by rw [HV.out]; rfl, rfl⟩
            · have HV := hideIt (HR.out.trans (if_neg (by omega)))
              go_wp2_with (go_at_call 33; refine (len64_any q hq64 _).mono ?_; rintro e w' ⟨z, rfl, hz1, hz2, rfl⟩; have T1 : ((k : Int) != ((z : Int) + 7) / 8) = false := (by rw [bne_eq_false_iff_eq]; omega); have HZ := hideIt hz2; have HB := hideIt hbl; clear hz2 hbl)
              all_goals go_ret3
              all_goals exact ⟨by rw [HV.out]; rfl, rfl⟩
          · have HV := hideIt (HR.out.trans (if_pos (Or.inl hbl)))
            go_wp2_with (go_at_call 33; refine (len64_any q hq64 _).mono ?_; rintro e w' ⟨z, rfl, hz1, hz2, rfl⟩; have T1 : ((k : Int) != ((z : Int) + 7) / 8) = true := (by rw [bne_iff_ne]; omega); have HZ := hideIt hz2; have HB := hideIt hbl; clear hz2 hbl)
            all_goals go_ret3
            all_goals exact ⟨by rw [HV.out]; rfl, rfl⟩
  · skip
    go_wp2
    all_goals
      try simp only [HE1.out]
      try simp only [HE2.out]
      try simp only [HE3.out]
      try simp only [HE4.out]
      go_loopg [7, 35] s (fun g s7 s35 wr => ∃ k q : Nat, g + k = s ∧ s7 = .int .u64 q ∧ Hid (num ((tl.take k).map (fun x : UInt8 => 255 - x)) = q) ∧ s35 = .int .i64 k ∧ w = wr)
      case atStart => exact ⟨0, 0, by omega, rfl, rfl, rfl, rfl⟩
      case round =>
        obtain ⟨k, q, hg, rfl, HQ, rfl, rfl⟩ := hrel
        by_cases hk : k < s
        · exact absurd hk (by omega)
        · have hks : k = s := by omega
          subst hks
          have hqm : q = m := HQ.out.symm.trans HM.out
          subst hqm
          have hq64 : q < 18446744073709551616 := by
            have := num_lt ((tl.take k).map (fun x : UInt8 => 255 - x))
            rw [HQ.out, List.length_map, List.length_take] at this
            exact Nat.lt_of_lt_of_le this (Nat.pow_le_pow_right (n := 256) (j := 8) (by omega) (by omega))
          by_cases hbl : k = (be q).length
          · by_cases hbig : 9223372036854775807 < q
            · have HV := hideIt (HR.out.trans (if_pos (Or.inr hbig)))
              go_wp2_with (go_at_call 33; refine (len64_any q hq64 _).mono ?_; rintro e w' ⟨z, rfl, hz1, hz2, rfl⟩; have T1 : ((k : Int) != ((z : Int) + 7) / 8) = false := (by rw [bne_eq_false_iff_eq]; omega); have HZ := hideIt hz2; have HB := hideIt hbl; clear hz2 hbl)
              all_goals go_ret3
              all_goals exact ⟨by rw [HV.out]; rfl, rfl⟩
            · have HV := hideIt (HR.out.trans (if_neg (by omega)))
              go_wp2_with (go_at_call 33; refine (len64_any q hq64 _).mono ?_; rintro e w' ⟨z, rfl, hz1, hz2, rfl⟩; have T1 : ((k : Int) != ((z : Int) + 7) / 8) = false := (by rw [bne_eq_false_iff_eq]; omega); have HZ := hideIt hz2; have HB := hideIt hbl; clear hz2 hbl)
              all_goals go_ret3
              all_goals exact ⟨by rw [HV.out]; rfl, rfl⟩
          · have HV := hideIt (HR.out.trans (if_pos (Or.inl hbl)))
            go_wp2_with (go_at_call 33; refine (len64_any q hq64 _).mono ?_; rintro e w' ⟨z, rfl, hz1, hz2, rfl⟩; have T1 : ((k : Int) != ((z : Int) + 7) / 8) = true := (by rw [bne_iff_ne]; omega); have HZ := hideIt hz2; have HB := hideIt hbl; clear hz2 hbl)
            all_goals go_ret3
            all_goals exact ⟨by rw [HV.out]; rfl, rfl⟩

set_option maxHeartbeats 400000 in
set_option maxRecDepth 100000 in
theorem getInt_pos_short (A : Option Addr) (B cap s : Nat) (hd : UInt8) (tl : List UInt8) (w : World) (hx : Sl w B A 1 (hd :: tl).length ((hd :: tl).map bv)) (hlc : (hd :: tl).length ≤ cap) (hc : cap ≤ maxLen)
    (hs1 : hd.toNat ≤ 128 + s) (hs2 : 128 + s ≤ hd.toNat) (hbad : 8 < s ∨ tl.length < s) :
    Calls Try.prog 21 #[.slice A (hd :: tl).length cap] w fun e w' => e = .returned (decV (0, 0, if 8 < s then 6 else 5)) ∧ w = w' := by
  unfold maxLen at hc
  have HX := hideIt hx
  obtain ⟨b, off, rfl, hb, hc0⟩ := hx.byte (k := 0) (by simp)
  simp only [List.getElem_cons_zero, Nat.add_zero] at hc0
  simp only [List.length_cons] at hlc ⊢
  clear hx
  by_cases h8 : 8 < s
  · rw [if_pos h8]
    have hd256 : hd.toNat < 256 := hd.toNat_lt
    go_enter Try.func21, Try.ntmps21
    go_wp2
    go_ret3
    exact ⟨rfl, rfl⟩
  · rw [if_neg h8]
    have hsh : tl.length < s := by omega
    go_enter Try.func21, Try.ntmps21
    go_wp2
    go_ret3
    exact ⟨rfl, rfl⟩

set_option maxHeartbeats 1000000 in
set_option maxRecDepth 100000 in
theorem getInt_pos (A : Option Addr) (B cap s : Nat) (hd : UInt8) (tl : List UInt8) (w : World) (hx : Sl w B A 1 (hd :: tl).length ((hd :: tl).map bv)) (hlc : (hd :: tl).length ≤ cap) (hc : cap ≤ maxLen)
    (hs1 : hd.toNat ≤ 128 + s) (hs2 : 128 + s ≤ hd.toNat) (h8 : s ≤ 8) (hle : s ≤ tl.length) (r : Int × Nat × Nat) (m : Nat) (hr : r = if s ≠ (be m).length ∨ 9223372036854775807 < m then (0, 0, 6) else ((m : Int), 1 + s, 0)) (hm : num ((tl.take s).map (fun x : UInt8 => x)) = m) :
    Calls Try.prog 21 #[.slice A (hd :: tl).length cap] w fun e w' =>
      e = .returned (decV r) ∧ w = w' := by
  unfold maxLen at hc
  have HX := hideIt hx
  have HM := hideIt hm
  have HR := hideIt hr
  obtain ⟨b, off, rfl, hb, hc0⟩ := hx.byte (k := 0) (by simp)
  simp only [List.getElem_cons_zero, Nat.add_zero] at hc0
  simp only [List.length_cons] at hlc ⊢
  clear hx hm hr
  have E1 : ((hd.toNat : Int) - 128) = (s : Int) := by omega
  have E4 : hd.toNat - 128 = s := by omega
  have E2 : (1 + (s : Int)).toNat - 1 = s := by omega
  have HE1 := hideIt E1
  have HE2 := hideIt E2
  have HE3 := hideIt (show 1 + (hd.toNat - 128) - 1 = hd.toNat - 128 from by omega)
  have HE4 := hideIt E4
  clear E1 E2 E4
  go_enter Try.func21, Try.ntmps21
  by_cases hz : 0 < s
  · skip
    go_wp2
    all_goals
      try simp only [HE1.out]
      try simp only [HE2.out]
      try simp only [HE3.out]
      try simp only [HE4.out]
      go_loopg [7, 35] s (fun g s7 s35 wr => ∃ k q : Nat, g + k = s ∧ s7 = .int .u64 q ∧ Hid (num ((tl.take k).map (fun x : UInt8 => x)) = q) ∧ s35 = .int .i64 k ∧ w = wr)
      case atStart => exact ⟨0, 0, by omega, rfl, rfl, rfl, rfl⟩
      case round =>
        obtain ⟨k, q, hg, rfl, HQ, rfl, rfl⟩ := hrel
        by_cases hk : k < s
        · have hkt : k < tl.length := by omega
          have hck : w.cell? ⟨b, off + 1 + k, none⟩ = some (bv tl[k]) := by
            obtain ⟨b', off', e, _, hcc⟩ := HX.out.byte (k := k + 1) (by simp; omega)
            injection e with e
            injection e with e1 e2
            subst e1 e2
            rw [show off + 1 + k = off + (k + 1) by omega, hcc]
            rfl
          have hq : q < 72057594037927936 := by
            have := num_lt ((tl.take k).map (fun x : UInt8 => x))
            rw [HQ.out, List.length_map, List.length_take] at this
            exact Nat.lt_of_lt_of_le this (Nat.pow_le_pow_right (n := 256) (j := 7) (by omega) (by omega))
          go_wp2
          all_goals
            go_roundg (gk - 1)
            case measure => omega
            case rel =>
              refine ⟨k + 1, num ((tl.take (k + 1)).map (fun x : UInt8 => x)), by omega, ?_, rfl, by go_num, rfl⟩
              rw [take_snoc _ _ hkt, List.map_append, List.map_singleton, num_snoc, HQ.out]
              have hor := or_plain q tl[k] hq
              exact congrArg (Value.int .u64) hor
        · have hks : k = s := by omega
          subst hks
          have hqm : q = m := HQ.out.symm.trans HM.out
          subst hqm
          have hq64 : q < 18446744073709551616 := by
            have := num_lt ((tl.take k).map (fun x : UInt8 => x))
            rw [HQ.out, List.length_map, List.length_take] at this
            exact Nat.lt_of_lt_of_le this (Nat.pow_le_pow_right (n := 256) (j := 8) (by omega) (by omega))
          by_cases hbl : k = (be q).length
          · by_cases hbig : 9223372036854775807 < q
            · have HV := hideIt (HR.out.trans (if_pos (Or.inr hbig)))
              go_wp2_with (go_at_call 33; refine (len64_any q hq64 _).mono ?_; rintro e w' ⟨z, rfl, hz1, hz2, rfl⟩; have T1 : ((k : Int) != ((z : Int) + 7) / 8) = false := (by rw [bne_eq_false_iff_eq]; omega); have HZ := hideIt hz2; have HB := hideIt hbl; clear hz2 hbl)
              all_goals go_ret3
              all_goals exact ⟨by rw [HV.out]; rfl, rfl⟩
            · have HV := hideIt (HR.out.trans (if_neg (by omega)))
              go_wp2_with (go_at_call 33; refine (len64_any q hq64 _).mono ?_; rintro e w' ⟨z, rfl, hz1, hz2, rfl⟩; have T1 : ((k : Int) != ((z : Int) + 7) / 8) = false := (by rw [bne_eq_false_iff_eq]; omega); have HZ := hideIt hz2; have HB := hideIt hbl; clear hz2 hbl)
              all_goals go_ret3
              all_goals exact ⟨by rw [HV.out]; rfl, rfl⟩
          · have HV := hideIt (HR.out.trans (if_pos (Or.inl hbl)))
            go_wp2_with (go_at_call 33; refine (len64_any q hq64 _).mono ?_; rintro e w' ⟨z, rfl, hz1, hz2, rfl⟩; have T1 : ((k : Int) != ((z : Int) + 7) / 8) = true := (by rw [bne_iff_ne]; omega); have HZ := hideIt hz2; have HB := hideIt hbl; clear hz2 hbl)
            all_goals go_ret3
            all_goals exact ⟨by rw [HV.out]; rfl, rfl⟩
  · skip
    go_wp2
    all_goals
      try simp only [HE1.out]
      try simp only [HE2.out]
      try simp only [HE3.out]
      try simp only [HE4.out]
      go_loopg [7, 35] s (fun g s7 s35 wr => ∃ k q : Nat, g + k = s ∧ s7 = .int .u64 q ∧ Hid (num ((tl.take k).map (fun x : UInt8 => x)) = q) ∧ s35 = .int .i64 k ∧ w = wr)
      case atStart => exact ⟨0, 0, by omega, rfl, rfl, rfl, rfl⟩
      case round =>
        obtain ⟨k, q, hg, rfl, HQ, rfl, rfl⟩ := hrel
        by_cases hk : k < s
        · exact absurd hk (by omega)
        · have hks : k = s := by omega
          subst hks
          have hqm : q = m := HQ.out.symm.trans HM.out
          subst hqm
          have hq64 : q < 18446744073709551616 := by
            have := num_lt ((tl.take k).map (fun x : UInt8 => x))
            rw [HQ.out, List.length_map, List.length_take] at this
            exact Nat.lt_of_lt_of_le this (Nat.pow_le_pow_right (n := 256) (j := 8) (by omega) (by omega))
          by_cases hbl : k = (be q).length
          · by_cases hbig : 9223372036854775807 < q
            · have HV := hideIt (HR.out.trans (if_pos (Or.inr hbig)))
              go_wp2_with (go_at_call 33; refine (len64_any q hq64 _).mono ?_; rintro e w' ⟨z, rfl, hz1, hz2, rfl⟩; have T1 : ((k : Int) != ((z : Int) + 7) / 8) = false := (by rw [bne_eq_false_iff_eq]; omega); have HZ := hideIt hz2; have HB := hideIt hbl; clear hz2 hbl)
              all_goals go_ret3
              all_goals exact ⟨by rw [HV.out]; rfl, rfl⟩
            · have HV := hideIt (HR.out.trans (if_neg (by omega)))
              go_wp2_with (go_at_call 33; refine (len64_any q hq64 _).mono ?_; rintro e w' ⟨z, rfl, hz1, hz2, rfl⟩; have T1 : ((k : Int) != ((z : Int) + 7) / 8) = false := (by rw [bne_eq_false_iff_eq]; omega); have HZ := hideIt hz2; have HB := hideIt hbl; clear hz2 hbl)
              all_goals go_ret3
              all_goals exact ⟨by rw [HV.out]; rfl, rfl⟩
          · have HV := hideIt (HR.out.trans (if_pos (Or.inl hbl)))
            go_wp2_with (go_at_call 33; refine (len64_any q hq64 _).mono ?_; rintro e w' ⟨z, rfl, hz1, hz2, rfl⟩; have T1 : ((k : Int) != ((z : Int) + 7) / 8) = true := (by rw [bne_iff_ne]; omega); have HZ := hideIt hz2; have HB := hideIt hbl; clear hz2 hbl)
            all_goals go_ret3
            all_goals exact ⟨by rw [HV.out]; rfl, rfl⟩

theorem getInt_any (A : Option Addr) (B cap : Nat) (l : List UInt8) (w : World) (hx : Sl w B A 1 l.length (l.map bv)) (hlc : l.length ≤ cap) (hc : cap ≤ maxLen) :
    Calls Try.prog 21 #[.slice A l.length cap] w fun e w' => e = .returned (decV (dec l)) ∧ w = w' := by
  cases l with
  | nil => exact getInt_nil A cap w
  | cons hd tl =>
    by_cases hn : hd.toNat < 128
    · have hs : dsz hd = 127 - hd.toNat := by unfold dsz; rw [if_pos hn]
      by_cases hbad : 8 < dsz hd ∨ tl.length < dsz hd
      · have e : dec (hd :: tl) = (0, 0, if 8 < dsz hd then 6 else 5) := by
          rw [dec_cons]
          by_cases h8 : 8 < dsz hd
          · rw [if_pos h8, if_pos h8]
          · rw [if_neg h8, if_neg h8, if_pos (by omega)]
        rw [e]
        exact getInt_neg_short A B cap (dsz hd) hd tl w hx hlc hc (by omega) (by omega) hbad
      · refine getInt_neg A B cap (dsz hd) hd tl w hx hlc hc (by omega) (by omega) (by omega) (by omega) _ (dnum hd tl) ?_ ?_
        · rw [dec_cons]
          rw [if_neg (by omega), if_neg (by omega), if_pos hn]
        · unfold dnum
          congr 2
          funext x
          unfold dfl
          rw [if_pos hn]
    · have hs : dsz hd = hd.toNat - 128 := by unfold dsz; rw [if_neg hn]
      by_cases hbad : 8 < dsz hd ∨ tl.length < dsz hd
      · have e : dec (hd :: tl) = (0, 0, if 8 < dsz hd then 6 else 5) := by
          rw [dec_cons]
          by_cases h8 : 8 < dsz hd
          · rw [if_pos h8, if_pos h8]
          · rw [if_neg h8, if_neg h8, if_pos (by omega)]
        rw [e]
        exact getInt_pos_short A B cap (dsz hd) hd tl w hx hlc hc (by omega) (by omega) hbad
      · refine getInt_pos A B cap (dsz hd) hd tl w hx hlc hc (by omega) (by omega) (by omega) (by omega) _ (dnum hd tl) ?_ ?_
        · rw [dec_cons]
          rw [if_neg (by omega), if_neg (by omega), if_neg hn]
        · unfold dnum
          congr 2
          funext x
          unfold dfl
          rw [if_neg hn]

end Go.Proofs.Yticgbohkgjheaaa
