/-
  The reference's decoding of a length, of a byte string and of a list of integers, walked: count, GetBytes, GetInts.
-/
import Derived.Test.YticgbohkgjheaaaRefGet
namespace Go.Proofs.Yticgbohkgjheaaa
open Go.RowKit
set_option linter.unusedVariables false

set_option maxHeartbeats 400000 in
set_option maxRecDepth 100000 in
theorem count1_any (A : Option Addr) (cap : Nat) (l : List UInt8) (w : World) (hx : Sl w w.heap.size A 1 l.length (l.map bv)) (hlc : l.length ≤ cap) (hc : cap ≤ maxLen) (hsm : l.length ≤ 1000000000) :
    Calls Try.prog 35 #[.slice A l.length cap, .int .i64 1] w fun x w' => x = .returned (lenV (decLen 1 l)) ∧ Below w.heap.size w w' := by
  have HX := hideIt hx
  clear hx
  have hcm := hc
  unfold maxLen at hcm
  obtain ⟨n, u, e, hd⟩ : ∃ n u e, dec l = (n, u, e) := ⟨_, _, _, rfl⟩
  have h1 := dec_ok l
  rw [hd] at h1
  simp only at h1
  have hL : decLen 1 l = if e ≠ 0 then (0, 0, e) else if n < 0 then (0, 0, 6) else if (l.length - u) / 1 < n.toNat then (0, 0, 5) else (n.toNat, u, 0) := by
    unfold decLen; rw [hd]
  have HL := hideIt hL
  have HDC := hideIt hd
  clear hL hd
  by_cases he : e = 0
  · have h2 := h1 he
    clear h1
    obtain ⟨b1, b2, b3, b4, b5⟩ := h2
    have HE := hideIt he
    by_cases hn : n < 0
    · have HV := hideIt (HL.out.trans ((if_neg (by simp [HE.out])).trans (if_pos hn)))
      have T0 : ((e : Int) != 0) = false := by rw [he]; rfl
      clear he
      go_enter Try.func35, Try.ntmps35
      go_wp2_with (go_at_call 22; refine (refGetInt_c A cap l _ HX.out hlc hc hsm n u e HDC.out).mono ?_; rintro x w1 ⟨rfl, hb⟩; have HB := hideIt hb; clear hb)
      go_ret3
      exact ⟨by rw [HV.out]; rfl, HB.out⟩
    · by_cases hq : (l.length - u) / 1 < n.toNat
      · have HV := hideIt (HL.out.trans ((if_neg (by simp [HE.out])).trans ((if_neg hn).trans (if_pos hq))))
        have T0 : ((e : Int) != 0) = false := by rw [he]; rfl
        by_cases hg : (l.length : Int) < n
        · have HQ := hideIt hq
          clear he hq
          go_enter Try.func35, Try.ntmps35
          go_wp2_with (go_at_call 22; refine (refGetInt_c A cap l _ HX.out hlc hc hsm n u e HDC.out).mono ?_; rintro x w1 ⟨rfl, hb⟩; have HB := hideIt hb; clear hb)
          go_ret3
          exact ⟨by rw [HV.out]; rfl, HB.out⟩
        · have T2 : ((l.length : Int) - u) < n := by omega
          have HQ := hideIt hq
          clear he hq
          go_enter Try.func35, Try.ntmps35
          go_wp2_with (go_at_call 22; refine (refGetInt_c A cap l _ HX.out hlc hc hsm n u e HDC.out).mono ?_; rintro x w1 ⟨rfl, hb⟩; have HB := hideIt hb; clear hb)
          go_ret3
          exact ⟨by rw [HV.out]; rfl, HB.out⟩
      · have HV := hideIt (HL.out.trans ((if_neg (by simp [HE.out])).trans ((if_neg hn).trans (if_neg hq))))
        have T0 : ((e : Int) != 0) = false := by rw [he]; rfl
        have hg : ¬ (l.length : Int) < n := by omega
        have T2 : ¬ ((l.length : Int) - u) < n := by omega
        have HQ := hideIt hq
        have hnn : n = (n.toNat : Int) := by omega
        have HN := hideIt hnn
        clear he hq hnn
        go_enter Try.func35, Try.ntmps35
        go_wp2_with (go_at_call 22; refine (refGetInt_c A cap l _ HX.out hlc hc hsm n u e HDC.out).mono ?_; rintro x w1 ⟨rfl, hb⟩; have HB := hideIt hb; clear hb)
        go_ret3
        refine ⟨?_, HB.out⟩
        rw [HV.out]
        unfold lenV
        simp only
        rw [← HN.out]
        rfl
  · have HV := hideIt (HL.out.trans (if_pos he))
    have T0 : ((e : Int) != 0) = true := by rw [bne_iff_ne]; omega
    have HE := hideIt he
    clear he h1
    go_enter Try.func35, Try.ntmps35
    go_wp2_with (go_at_call 22; refine (refGetInt_c A cap l _ HX.out hlc hc hsm n u e HDC.out).mono ?_; rintro x w1 ⟨rfl, hb⟩; have HB := hideIt hb; clear hb)
    go_ret3
    exact ⟨by rw [HV.out]; rfl, HB.out⟩
theorem count1_c (A : Option Addr) (cap : Nat) (l : List UInt8) (w : World) (hx : Sl w w.heap.size A 1 l.length (l.map bv)) (hlc : l.length ≤ cap) (hc : cap ≤ maxLen) (hsm : l.length ≤ 1000000000) (n u e : Nat) (hd : decLen 1 l = (n, u, e)) :
    Calls Try.prog 35 #[.slice A l.length cap, .int .i64 1] w fun x w' => x = .returned (.tuple #[.int .i64 (n : Int), .int .i64 (u : Int), .int .i64 (e : Int)]) ∧ Below w.heap.size w w' := by
  refine (count1_any A cap l w hx hlc hc hsm).mono ?_
  rintro x w' ⟨rfl, hb⟩
  rw [hd]
  exact ⟨rfl, hb⟩

set_option maxHeartbeats 400000 in
set_option maxRecDepth 100000 in
theorem count16_any (A : Option Addr) (cap : Nat) (l : List UInt8) (w : World) (hx : Sl w w.heap.size A 1 l.length (l.map bv)) (hlc : l.length ≤ cap) (hc : cap ≤ maxLen) (hsm : l.length ≤ 1000000000) :
    Calls Try.prog 35 #[.slice A l.length cap, .int .i64 16] w fun x w' => x = .returned (lenV (decLen 16 l)) ∧ Below w.heap.size w w' := by
  have HX := hideIt hx
  clear hx
  have hcm := hc
  unfold maxLen at hcm
  obtain ⟨n, u, e, hd⟩ : ∃ n u e, dec l = (n, u, e) := ⟨_, _, _, rfl⟩
  have h1 := dec_ok l
  rw [hd] at h1
  simp only at h1
  have hL : decLen 16 l = if e ≠ 0 then (0, 0, e) else if n < 0 then (0, 0, 6) else if (l.length - u) / 16 < n.toNat then (0, 0, 5) else (n.toNat, u, 0) := by
    unfold decLen; rw [hd]
  have HL := hideIt hL
  have HDC := hideIt hd
  clear hL hd
  by_cases he : e = 0
  · have h2 := h1 he
    clear h1
    obtain ⟨b1, b2, b3, b4, b5⟩ := h2
    have HE := hideIt he
    by_cases hn : n < 0
    · have HV := hideIt (HL.out.trans ((if_neg (by simp [HE.out])).trans (if_pos hn)))
      have T0 : ((e : Int) != 0) = false := by rw [he]; rfl
      clear he
      go_enter Try.func35, Try.ntmps35
      go_wp2_with (go_at_call 22; refine (refGetInt_c A cap l _ HX.out hlc hc hsm n u e HDC.out).mono ?_; rintro x w1 ⟨rfl, hb⟩; have HB := hideIt hb; clear hb)
      go_ret3
      exact ⟨by rw [HV.out]; rfl, HB.out⟩
    · by_cases hq : (l.length - u) / 16 < n.toNat
      · have HV := hideIt (HL.out.trans ((if_neg (by simp [HE.out])).trans ((if_neg hn).trans (if_pos hq))))
        have T0 : ((e : Int) != 0) = false := by rw [he]; rfl
        by_cases hg : (l.length : Int) < n
        · have HQ := hideIt hq
          clear he hq
          go_enter Try.func35, Try.ntmps35
          go_wp2_with (go_at_call 22; refine (refGetInt_c A cap l _ HX.out hlc hc hsm n u e HDC.out).mono ?_; rintro x w1 ⟨rfl, hb⟩; have HB := hideIt hb; clear hb)
          go_ret3
          exact ⟨by rw [HV.out]; rfl, HB.out⟩
        · have T2 : ((l.length : Int) - u) < n * 16 := by omega
          have HQ := hideIt hq
          clear he hq
          go_enter Try.func35, Try.ntmps35
          go_wp2_with (go_at_call 22; refine (refGetInt_c A cap l _ HX.out hlc hc hsm n u e HDC.out).mono ?_; rintro x w1 ⟨rfl, hb⟩; have HB := hideIt hb; clear hb)
          go_ret3
          exact ⟨by rw [HV.out]; rfl, HB.out⟩
      · have HV := hideIt (HL.out.trans ((if_neg (by simp [HE.out])).trans ((if_neg hn).trans (if_neg hq))))
        have T0 : ((e : Int) != 0) = false := by rw [he]; rfl
        have hg : ¬ (l.length : Int) < n := by omega
        have T2 : ¬ ((l.length : Int) - u) < n * 16 := by omega
        have HQ := hideIt hq
        have hnn : n = (n.toNat : Int) := by omega
        have HN := hideIt hnn
        clear he hq hnn
        go_enter Try.func35, Try.ntmps35
        go_wp2_with (go_at_call 22; refine (refGetInt_c A cap l _ HX.out hlc hc hsm n u e HDC.out).mono ?_; rintro x w1 ⟨rfl, hb⟩; have HB := hideIt hb; clear hb)
        go_ret3
        refine ⟨?_, HB.out⟩
        rw [HV.out]
        unfold lenV
        simp only
        rw [← HN.out]
        rfl
  · have HV := hideIt (HL.out.trans (if_pos he))
    have T0 : ((e : Int) != 0) = true := by rw [bne_iff_ne]; omega
    have HE := hideIt he
    clear he h1
    go_enter Try.func35, Try.ntmps35
    go_wp2_with (go_at_call 22; refine (refGetInt_c A cap l _ HX.out hlc hc hsm n u e HDC.out).mono ?_; rintro x w1 ⟨rfl, hb⟩; have HB := hideIt hb; clear hb)
    go_ret3
    exact ⟨by rw [HV.out]; rfl, HB.out⟩
theorem count16_c (A : Option Addr) (cap : Nat) (l : List UInt8) (w : World) (hx : Sl w w.heap.size A 1 l.length (l.map bv)) (hlc : l.length ≤ cap) (hc : cap ≤ maxLen) (hsm : l.length ≤ 1000000000) (n u e : Nat) (hd : decLen 16 l = (n, u, e)) :
    Calls Try.prog 35 #[.slice A l.length cap, .int .i64 16] w fun x w' => x = .returned (.tuple #[.int .i64 (n : Int), .int .i64 (u : Int), .int .i64 (e : Int)]) ∧ Below w.heap.size w w' := by
  refine (count16_any A cap l w hx hlc hc hsm).mono ?_
  rintro x w' ⟨rfl, hb⟩
  rw [hd]
  exact ⟨rfl, hb⟩

set_option maxHeartbeats 400000 in
set_option maxRecDepth 100000 in
theorem refGetBytes_any (A : Option Addr) (cap : Nat) (l : List UInt8) (w : World) (hx : Sl w w.heap.size A 1 l.length (l.map bv)) (hlc : l.length ≤ cap) (hc : cap ≤ maxLen) (hsm : l.length ≤ 1000000000) :
    Calls Try.prog 24 #[.slice A l.length cap] w fun x w' => x = .returned (byV (decB l)) ∧ Below w.heap.size w w' := by
  have hcm := hc
  unfold maxLen at hcm
  obtain ⟨n, u, e, hd⟩ : ∃ n u e, decLen 1 l = (n, u, e) := ⟨_, _, _, rfl⟩
  have h1 := decLen_ok 1 (by omega) l
  rw [hd] at h1
  simp only at h1
  have hL : decB l = if e ≠ 0 then ([], 0, e) else ((l.drop u).take n, u + n, 0) := by unfold decB; rw [hd]
  have HL := hideIt hL
  have HG := hideIt (count1_c A cap l w hx hlc hc hsm n u e hd)
  have HX := hideIt hx
  clear hL hd hx
  by_cases he : e = 0
  · have h2 := h1 he
    clear h1
    obtain ⟨b1, b2, b3⟩ := h2
    have HV := hideIt (HL.out.trans (if_neg (by simp [he])))
    have T0 : ((e : Int) != 0) = false := by rw [he]; rfl
    obtain ⟨A', hcut, hsl⟩ := cut_both Try.underlying26 size1_8 A (n := l.length) (cap := cap) (k := u) (h := u + n) (by omega) (by omega) hlc
    have hlen : ((l.drop u).take n).length = n := by rw [List.length_take, List.length_drop]; omega
    have hcut1 : Hid (∀ W, (Instr.sliceAt 26 (.slice A l.length cap) (some (.int .i64 (u : Int))) (some (.int .i64 ((u : Int) + (n : Int)))) none).run Try.prog W = .ok (.slice A' n (cap - u)) W) := by
      intro W
      have := hcut W (u : Int) ((u : Int) + (n : Int)) rfl (by omega)
      rwa [Nat.add_sub_cancel_left] at this
    have hconv : Hid (∀ W, Below w.heap.size w W → (convert 26 9 (.slice A' n (cap - u))).run Try.prog W = .ok (.string ⟨((l.drop u).take n).toArray⟩) W) := by
      intro W hb
      have hS : Sl W w.heap.size A' 1 n ((l.drop u).take n |>.map bv) := by
        have := hsl W _ _ (HX.out.below hb)
        rw [Nat.add_sub_cancel_left] at this
        simpa [List.map_take, List.map_drop] using this
      have := conv_bytes (P := Try.prog) (T := 26) (S := 9) (e := 5) Try.underlying26 Try.underlying5 Try.underlying9 (c := cap - u) (l := (l.drop u).take n) (by rw [hlen]; exact hS)
      rwa [hlen] at this
    clear he hcut hsl hlen
    generalize (l.drop u).take n = s at *
    go_enter Try.func24, Try.ntmps24
    go_wp2_with (go_at_call 35; refine HG.out.mono ?_; rintro x w1 ⟨rfl, hb⟩; have hct := hcut1.out w1; have hcv := hconv.out w1 hb; have HB := hideIt hb; clear hb)
    go_ret3
    refine ⟨?_, HB.out⟩
    rw [HV.out]
    rfl
  · have HV := hideIt (HL.out.trans (if_pos he))
    have T0 : ((e : Int) != 0) = true := by rw [bne_iff_ne]; omega
    clear he h1
    go_enter Try.func24, Try.ntmps24
    go_wp2_with (go_at_call 35; refine HG.out.mono ?_; rintro x w1 ⟨rfl, hb⟩; have HB := hideIt hb; clear hb)
    go_ret3
    exact ⟨by rw [HV.out]; rfl, HB.out⟩

theorem own_push {w : World} {base : Nat} {v : Value} {xs : List Int} {n : Nat} {x : Int} (h : w.ownsRow base 3 1 v (n + 1) (xs.map iv ++ [iv x])) : w.ownsRow base 3 1 v (n + 1) ((xs ++ [x]).map iv) := by
  rw [List.map_append]
  exact h
theorem one_num (x : Int) : ∀ u ∈ [iv x], u.oneCell' = true := by
  intro u hu
  rw [List.mem_singleton] at hu
  subst hu; rfl

set_option maxHeartbeats 800000 in
set_option maxRecDepth 100000 in
theorem refGetInts_any (A : Option Addr) (cap : Nat) (l : List UInt8) (w : World) (hx : Sl w w.heap.size A 1 l.length (l.map bv)) (hlc : l.length ≤ cap) (hc : cap ≤ maxLen) (hsm : l.length ≤ 1000000000) :
    Calls Try.prog 26 #[.slice A l.length cap] w fun x w' =>
      ∃ v', x = .returned (.tuple #[v', .int .i64 ((decI l).2.1 : Int), .int .i64 ((decI l).2.2 : Int)]) ∧ w'.ownsRow w.heap.size 3 1 v' (decI l).1.length ((decI l).1.map iv) ∧ Below w.heap.size w w' := by
  obtain ⟨i0, hi, hz0, hz1, hz2⟩ := info_parts Try.info3
  have hcm := hc
  unfold maxLen at hcm
  obtain ⟨n, u, e, hd⟩ : ∃ n u e, decLen 1 l = (n, u, e) := ⟨_, _, _, rfl⟩
  have h1 := decLen_ok 1 (by omega) l
  rw [hd] at h1
  simp only at h1
  have hL : decI l = if e ≠ 0 then ([], 0, e) else decIs l n u := by unfold decI; rw [hd]
  have HL := hideIt hL
  have HG := hideIt (count1_c A cap l w hx hlc hc hsm n u e hd)
  have HX := hideIt hx
  clear hL hd hx
  by_cases he : e = 0
  · have h2 := h1 he
    clear h1
    obtain ⟨b1, b2, b3⟩ := h2
    have HV := hideIt (HL.out.trans (if_neg (by simp [he])))
    have T0 : ((e : Int) != 0) = false := by rw [he]; rfl
    clear he
    go_enter Try.func26, Try.ntmps26
    go_wp2_with (go_at_call 35; refine HG.out.mono ?_; rintro x w1 ⟨rfl, hb⟩; have HB := hideIt hb; clear hb)
    go_loopg [6, 8, 9] n (fun gg s6 s8 s9 wr => ∃ (k i : Nat) (xs : List Int), gg + k = n ∧ i ≤ l.length ∧ s9 = .int .i64 k ∧ s6 = .int .i64 i ∧ Hid (xs.length = k) ∧
      Hid (wr.ownsRow w.heap.size 3 1 s8 k (xs.map iv)) ∧ Hid (Below w.heap.size w wr) ∧ Hid (decIs l n u = glue xs (decIs l (n - k) i)))
    case atStart => exact ⟨0, u, [], by omega, by omega, rfl, rfl, rfl, World.ownsRow_nil _ _ _ _, HB, (glue_nil l n u).symm⟩
    case round =>
      obtain ⟨k, i, xs, hg, hil, rfl, rfl, HXL, HOW, HBL, HDI⟩ := hrel
      by_cases hk : k < n
      · obtain ⟨m, hm⟩ : ∃ m, n - k = m + 1 := ⟨n - k - 1, by omega⟩
        obtain ⟨n', u', e', hd'⟩ : ∃ n' u' e', dec (l.drop i) = (n', u', e') := ⟨_, _, _, rfl⟩
        have h1' := dec_ok (l.drop i)
        rw [hd', List.length_drop] at h1'
        simp only at h1'
        rw [hm] at HDI
        obtain ⟨A', hcut, hsl⟩ := cut_from Try.underlying26 size1_8 A hil hlc
        have hS : Sl wr wr.heap.size A' 1 (l.drop i).length ((l.drop i).map bv) := by
          have := hsl wr wr.heap.size _ ((HX.out.below HBL.out).wide HBL.out.size)
          simpa [List.map_drop] using this
        have hcut1 := hcut wr
        have hG := refGetInt_c A' (cap - i) (l.drop i) wr hS (by rw [List.length_drop]; omega) (by unfold maxLen; omega) (by rw [List.length_drop]; omega) n' u' e' hd'
        rw [List.length_drop] at hG
        have HGI := hideIt hG
        have HD' := hideIt hd'
        have HM := hideIt hm
        clear hS hsl hG hcut hd' hm
        by_cases he' : e' = 0
        · obtain ⟨c1, c2, c3, c4, c5⟩ := h1' he'
          have HD2 : Hid (dec (l.drop i) = (n', u', 0)) := by rw [← he']; exact HD'
          have T1 : ((e' : Int) != 0) = false := by rw [he']; rfl
          clear he' h1'
          go_wp2_with (first
            | (go_at_call 22; refine HGI.out.mono ?_; rintro x w2 ⟨rfl, hb⟩; have HB2 := hideIt hb; clear hb)
            | (at_builtin; refine wpList_append_own _ rfl (.tmp 38) (.tmp 40) 22 rfl w.heap.size 3 i0 (.int .i64 0) 1 8 Try.underlying22 hi hz0 hz1 hz2 rfl (by decide) _ k (xs.map iv) rfl (own_kept (own_kept HOW.out HB2.out) (below_one w2 3 _)) ⟨w2.heap.size, 0, none⟩ 1 1 [iv n'] rfl rfl (one_new w2 3 _) (one_num _) (by unfold maxLen; omega) (by omega) (Nat.le_trans (Nat.le_trans HBL.out.size HB2.out.size) (below_one _ _ _).size) ?_; intro v9 w9 hown9 hg9 _; have hb1 := below_one w2 3 (iv n'); have hbw2 := HBL.out.trans (HB2.out.mono HBL.out.size); have HB9 := hideIt (below_grown (hbw2.trans (hb1.mono hbw2.size)) (own_kept (own_kept HOW.out HB2.out) hb1) (Nat.le_refl _) (Nat.le_trans hbw2.size hb1.size) hg9); have HO9 := hideIt (own_push hown9); clear hown9 hg9 hb1 hbw2))
          go_roundg (gk - 1)
          case measure => omega
          case rel =>
            refine ⟨k + 1, i + u', xs ++ [n'], by omega, by omega, by go_num, by go_num, by show (xs ++ [n']).length = k + 1; rw [List.length_append, HXL.out]; rfl, HO9, HB9, ?_⟩
            have h9 : n - (k + 1) = m := by have := HM.out; omega
            rw [h9]
            exact HDI.out.trans (decIs_go HD2.out xs)
        · have HE' := hideIt he'
          have T1 : ((e' : Int) != 0) = true := by rw [bne_iff_ne]; omega
          clear he' h1'
          go_wp2_with (go_at_call 22; refine HGI.out.mono ?_; rintro x w2 ⟨rfl, hb⟩; have HB2 := hideIt hb; clear hb)
          go_ret3
          rw [HV.out, HDI.out, decIs_bad HD'.out HE'.out]
          exact ⟨_, rfl, World.ownsRow_nil _ _ _ _, HBL.out.trans (HB2.out.mono HBL.out.size)⟩
      · go_wp2
        go_ret3
        have hkn : n - k = 0 := by omega
        have h3 := HDI.out
        rw [hkn] at h3
        have h4 : decIs l n u = (xs, i, 0) := h3.trans (glue_end xs i)
        rw [HV.out, h4]
        refine ⟨_, rfl, ?_, HBL.out⟩
        have h5 := HOW.out
        rw [← HXL.out] at h5
        exact h5
  · have HV := hideIt (HL.out.trans (if_pos he))
    have T0 : ((e : Int) != 0) = true := by rw [bne_iff_ne]; omega
    clear he h1
    go_enter Try.func26, Try.ntmps26
    go_wp2_with (go_at_call 35; refine HG.out.mono ?_; rintro x w1 ⟨rfl, hb⟩; have HB := hideIt hb; clear hb)
    go_ret3
    rw [HV.out]
    exact ⟨_, rfl, World.ownsRow_nil _ _ _ _, HB.out⟩

end Go.Proofs.Yticgbohkgjheaaa
