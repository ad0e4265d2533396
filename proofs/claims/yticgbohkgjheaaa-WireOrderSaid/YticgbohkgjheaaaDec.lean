/-
  The decoding of a length, of a byte string and of a list of integers, walked: wire.getLength, GetBytes, getList at int, GetInts.
-/
import Derived.Test.YticgbohkgjheaaaGet
import Derived.Lib.SlBytesRow
namespace Go.Proofs.Yticgbohkgjheaaa
open Go.RowKit
set_option linter.unusedVariables false

theorem getInt_c (A : Option Addr) (B cap : Nat) (l : List UInt8) (w : World) (hx : Sl w B A 1 l.length (l.map bv)) (hlc : l.length ≤ cap) (hc : cap ≤ maxLen) (n : Int) (u e : Nat) (hd : dec l = (n, u, e)) :
    Calls Try.prog 21 #[.slice A l.length cap] w fun x w' => x = .returned (.tuple #[.int .i64 n, .int .i64 (u : Int), .int .i64 (e : Int)]) ∧ w = w' := by
  refine (getInt_any A B cap l w hx hlc hc).mono ?_
  rintro x w' ⟨rfl, rfl⟩
  rw [hd]
  exact ⟨rfl, rfl⟩

def lenV (r : Nat × Nat × Nat) : Value := .tuple #[.int .i64 (r.1 : Int), .int .i64 (r.2.1 : Int), .int .i64 (r.2.2 : Int)]

set_option maxHeartbeats 400000 in
set_option maxRecDepth 100000 in
theorem getLength1_any (A : Option Addr) (B cap : Nat) (l : List UInt8) (w : World) (hx : Sl w B A 1 l.length (l.map bv)) (hlc : l.length ≤ cap) (hc : cap ≤ maxLen) :
    Calls Try.prog 34 #[.slice A l.length cap, .int .i64 1] w fun x w' => x = .returned (lenV (decLen 1 l)) ∧ w = w' := by
  have HX := hideIt hx
  clear hx
  have hcm := hc
  unfold maxLen at hcm
  obtain ⟨n, u, e, hd⟩ : ∃ n u e, dec l = (n, u, e) := ⟨_, _, _, rfl⟩
  have h1 := dec_ok l
  rw [hd] at h1
  simp only at h1
  have hL : decLen 1 l = if e ≠ 0 then (0, 0, e) else if n < 0 then (0, 0, 6) else if (l.length - u) / 1 < n.toNat then (0, 0, 5) else (n.toNat, u, 0) := by
    unfold decLen; rw [hd]
  have HL := hideIt hL
  have HDC := hideIt hd
  clear hL hd
  by_cases he : e = 0
  · have h2 := h1 he
    clear h1
    obtain ⟨b1, b2, b3, b4, b5⟩ := h2
    have HE := hideIt he
    by_cases hn : n < 0
    · have HV := hideIt (HL.out.trans ((if_neg (by simp [HE.out])).trans (if_pos hn)))
      have T0 : ((e : Int) != 0) = false := by rw [he]; rfl
      clear he
      go_enter Try.func34, Try.ntmps34
      go_wp2_with (go_at_call 21; refine (getInt_c A B cap l _ HX.out hlc hc n u e HDC.out).mono ?_; rintro x w' ⟨rfl, rfl⟩)
      go_ret3
      exact ⟨by rw [HV.out]; rfl, rfl⟩
    · by_cases hq : (l.length - u) / 1 < n.toNat
      · have HV := hideIt (HL.out.trans ((if_neg (by simp [HE.out])).trans ((if_neg hn).trans (if_pos hq))))
        have T0 : ((e : Int) != 0) = false := by rw [he]; rfl
        have T2 : ((l.length : Int) - u) < n := by omega
        have HQ := hideIt hq
        clear he hq
        go_enter Try.func34, Try.ntmps34
        go_wp2_with (go_at_call 21; refine (getInt_c A B cap l _ HX.out hlc hc n u e HDC.out).mono ?_; rintro x w' ⟨rfl, rfl⟩)
        go_ret3
        exact ⟨by rw [HV.out]; rfl, rfl⟩
      · have HV := hideIt (HL.out.trans ((if_neg (by simp [HE.out])).trans ((if_neg hn).trans (if_neg hq))))
        have T0 : ((e : Int) != 0) = false := by rw [he]; rfl
        have T2 : ¬ ((l.length : Int) - u) < n := by omega
        have HQ := hideIt hq
        have hnn : n = (n.toNat : Int) := by omega
        have HN := hideIt hnn
        clear he hq hnn
        go_enter Try.func34, Try.ntmps34
        go_wp2_with (go_at_call 21; refine (getInt_c A B cap l _ HX.out hlc hc n u e HDC.out).mono ?_; rintro x w' ⟨rfl, rfl⟩)
        go_ret3
        refine ⟨?_, rfl⟩
        rw [HV.out]
        unfold lenV
        simp only
        rw [← HN.out]
        rfl
  · have HV := hideIt (HL.out.trans (if_pos he))
    have T0 : ((e : Int) != 0) = true := by rw [bne_iff_ne]; omega
    have HE := hideIt he
    clear he h1
    go_enter Try.func34, Try.ntmps34
    go_wp2_with (go_at_call 21; refine (getInt_c A B cap l _ HX.out hlc hc n u e HDC.out).mono ?_; rintro x w' ⟨rfl, rfl⟩)
    go_ret3
    exact ⟨by rw [HV.out]; rfl, rfl⟩

set_option maxHeartbeats 400000 in
set_option maxRecDepth 100000 in
theorem getLength16_any (A : Option Addr) (B cap : Nat) (l : List UInt8) (w : World) (hx : Sl w B A 1 l.length (l.map bv)) (hlc : l.length ≤ cap) (hc : cap ≤ maxLen) :
    Calls Try.prog 34 #[.slice A l.length cap, .int .i64 16] w fun x w' => x = .returned (lenV (decLen 16 l)) ∧ w = w' := by
  have HX := hideIt hx
  clear hx
  have hcm := hc
  unfold maxLen at hcm
  obtain ⟨n, u, e, hd⟩ : ∃ n u e, dec l = (n, u, e) := ⟨_, _, _, rfl⟩
  have h1 := dec_ok l
  rw [hd] at h1
  simp only at h1
  have hL : decLen 16 l = if e ≠ 0 then (0, 0, e) else if n < 0 then (0, 0, 6) else if (l.length - u) / 16 < n.toNat then (0, 0, 5) else (n.toNat, u, 0) := by
    unfold decLen; rw [hd]
  have HL := hideIt hL
  have HDC := hideIt hd
  clear hL hd
  by_cases he : e = 0
  · have h2 := h1 he
    clear h1
    obtain ⟨b1, b2, b3, b4, b5⟩ := h2
    have HE := hideIt he
    by_cases hn : n < 0
    · have HV := hideIt (HL.out.trans ((if_neg (by simp [HE.out])).trans (if_pos hn)))
      have T0 : ((e : Int) != 0) = false := by rw [he]; rfl
      clear he
      go_enter Try.func34, Try.ntmps34
      go_wp2_with (go_at_call 21; refine (getInt_c A B cap l _ HX.out hlc hc n u e HDC.out).mono ?_; rintro x w' ⟨rfl, rfl⟩)
      go_ret3
      exact ⟨by rw [HV.out]; rfl, rfl⟩
    · by_cases hq : (l.length - u) / 16 < n.toNat
      · have HV := hideIt (HL.out.trans ((if_neg (by simp [HE.out])).trans ((if_neg hn).trans (if_pos hq))))
        have T0 : ((e : Int) != 0) = false := by rw [he]; rfl
        have T2 : ((l.length : Int) - u) / 16 < n := by omega
        have HQ := hideIt hq
        clear he hq
        go_enter Try.func34, Try.ntmps34
        go_wp2_with (go_at_call 21; refine (getInt_c A B cap l _ HX.out hlc hc n u e HDC.out).mono ?_; rintro x w' ⟨rfl, rfl⟩)
        go_ret3
        exact ⟨by rw [HV.out]; rfl, rfl⟩
      · have HV := hideIt (HL.out.trans ((if_neg (by simp [HE.out])).trans ((if_neg hn).trans (if_neg hq))))
        have T0 : ((e : Int) != 0) = false := by rw [he]; rfl
        have T2 : ¬ ((l.length : Int) - u) / 16 < n := by omega
        have HQ := hideIt hq
        have hnn : n = (n.toNat : Int) := by omega
        have HN := hideIt hnn
        clear he hq hnn
        go_enter Try.func34, Try.ntmps34
        go_wp2_with (go_at_call 21; refine (getInt_c A B cap l _ HX.out hlc hc n u e HDC.out).mono ?_; rintro x w' ⟨rfl, rfl⟩)
        go_ret3
        refine ⟨?_, rfl⟩
        rw [HV.out]
        unfold lenV
        simp only
        rw [← HN.out]
        rfl
  · have HV := hideIt (HL.out.trans (if_pos he))
    have T0 : ((e : Int) != 0) = true := by rw [bne_iff_ne]; omega
    have HE := hideIt he
    clear he h1
    go_enter Try.func34, Try.ntmps34
    go_wp2_with (go_at_call 21; refine (getInt_c A B cap l _ HX.out hlc hc n u e HDC.out).mono ?_; rintro x w' ⟨rfl, rfl⟩)
    go_ret3
    exact ⟨by rw [HV.out]; rfl, rfl⟩

theorem decLen_ok (size : Nat) (hs : 0 < size) (l : List UInt8) (h : (decLen size l).2.2 = 0) :
    1 ≤ (decLen size l).2.1 ∧ (decLen size l).2.1 ≤ 9 ∧ (decLen size l).2.1 + (decLen size l).1 * size ≤ l.length := by
  unfold decLen at h ⊢
  by_cases he : (dec l).2.2 = 0
  · obtain ⟨b1, b2, b3, _⟩ := dec_ok l he
    rw [if_neg (by simp [he])] at h ⊢
    by_cases hn : (dec l).1 < 0
    · rw [if_pos hn] at h; simp at h
    · rw [if_neg hn] at h ⊢
      by_cases hq : (l.length - (dec l).2.1) / size < (dec l).1.toNat
      · rw [if_pos hq] at h; simp at h
      · rw [if_neg hq]
        simp only
        refine ⟨b1, b2, ?_⟩
        have h1 : (dec l).1.toNat * size ≤ (l.length - (dec l).2.1) / size * size := Nat.mul_le_mul_right _ (by omega)
        have h2 := Nat.div_mul_le_self (l.length - (dec l).2.1) size
        omega
  · rw [if_pos he] at h; simp at h; exact absurd h he

def byV (r : List UInt8 × Nat × Nat) : Value := .tuple #[.string ⟨r.1.toArray⟩, .int .i64 (r.2.1 : Int), .int .i64 (r.2.2 : Int)]

theorem size1_8 (W : World) : (sizeOf 5).run Try.prog W = .ok 1 W := by kernel_rfl

set_option maxHeartbeats 400000 in
set_option maxRecDepth 100000 in
theorem getBytes_any (A : Option Addr) (B cap : Nat) (l : List UInt8) (w : World) (hx : Sl w B A 1 l.length (l.map bv)) (hlc : l.length ≤ cap) (hc : cap ≤ maxLen) :
    Calls Try.prog 23 #[.slice A l.length cap] w fun x w' => x = .returned (byV (decB l)) ∧ w = w' := by
  have hcm := hc
  unfold maxLen at hcm
  obtain ⟨n, u, e, hd⟩ : ∃ n u e, decLen 1 l = (n, u, e) := ⟨_, _, _, rfl⟩
  have h1 := decLen_ok 1 (by omega) l
  rw [hd] at h1
  simp only at h1
  have hL : decB l = if e ≠ 0 then ([], 0, e) else ((l.drop u).take n, u + n, 0) := by unfold decB; rw [hd]
  have HL := hideIt hL
  have hgl := getLength1_any A B cap l w hx hlc hc
  rw [hd] at hgl
  have hgl2 : Calls Try.prog 34 #[.slice A l.length cap, .int .i64 1] w fun x w' => x = .returned (.tuple #[.int .i64 (n : Int), .int .i64 (u : Int), .int .i64 (e : Int)]) ∧ w = w' := hgl
  have HG := hideIt hgl2
  have HX := hideIt hx
  clear hL hd hgl hgl2 hx
  by_cases he : e = 0
  · have h2 := h1 he
    clear h1
    obtain ⟨b1, b2, b3⟩ := h2
    have HV := hideIt (HL.out.trans (if_neg (by simp [he])))
    have T0 : ((e : Int) != 0) = false := by rw [he]; rfl
    obtain ⟨A', hcut, hsl⟩ := cut_both Try.underlying26 size1_8 A (n := l.length) (cap := cap) (k := u) (h := u + n) (by omega) (by omega) hlc
    have hS : Sl w B A' 1 (u + n - u) ((l.drop u).take n |>.map bv) := by
      have := hsl w B _ HX.out
      simpa [List.map_take, List.map_drop, Nat.add_sub_cancel_left] using this
    rw [Nat.add_sub_cancel_left] at hS
    have hlen : ((l.drop u).take n).length = n := by rw [List.length_take, List.length_drop]; omega
    have hcut1 : (Instr.sliceAt 26 (.slice A l.length cap) (some (.int .i64 (u : Int))) (some (.int .i64 ((u : Int) + (n : Int)))) none).run Try.prog w = .ok (.slice A' n (cap - u)) w := by
      have := hcut w (u : Int) ((u : Int) + (n : Int)) rfl (by omega)
      rwa [Nat.add_sub_cancel_left] at this
    have hconv : (convert 26 9 (.slice A' n (cap - u))).run Try.prog w = .ok (.string ⟨((l.drop u).take n).toArray⟩) w := by
      have := conv_bytes (P := Try.prog) (T := 26) (S := 9) (e := 5) Try.underlying26 Try.underlying5 Try.underlying9 (c := cap - u) (l := (l.drop u).take n) (by rw [hlen]; exact hS)
      rwa [hlen] at this
    clear he hcut hsl hS hlen
    generalize (l.drop u).take n = s at *
    go_enter Try.func23, Try.ntmps23
    go_wp2_with (go_at_call 34; refine HG.out.mono ?_; rintro x w' ⟨rfl, rfl⟩)
    go_ret3
    refine ⟨?_, rfl⟩
    rw [HV.out]
    rfl
  · have HV := hideIt (HL.out.trans (if_pos he))
    have T0 : ((e : Int) != 0) = true := by rw [bne_iff_ne]; omega
    clear he h1
    go_enter Try.func23, Try.ntmps23
    go_wp2_with (go_at_call 34; refine HG.out.mono ?_; rintro x w' ⟨rfl, rfl⟩)
    go_ret3
    exact ⟨by rw [HV.out]; rfl, rfl⟩

end Go.Proofs.Yticgbohkgjheaaa
