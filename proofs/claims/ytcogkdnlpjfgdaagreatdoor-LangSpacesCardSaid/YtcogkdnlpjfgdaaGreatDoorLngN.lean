/-
  The program's functions on texts, walked: isWord, isNumber, skipGap, tokenSize.
-/
import Derived.Test.YtcogkdnlpjfgdaaGreatDoorLngT
namespace Go.Proofs.YtcogkdnlpjfgdaaGreatDoor
open Go.RowKit
set_option linter.unusedVariables false

theorem s_eql (T : TypeId) (a b : Bs) : binOp .eql T (sv a) (sv b) = pure (.bool (decide (a = b))) := by
  have h : decide (a = b) = (a == b) := by rw [Bool.eq_iff_iff, decide_eq_true_iff, beq_iff_eq]
  rw [h, binOp_string_eql, Lib.toList_data, Lib.toList_data, ss_list, ss_list]
theorem s_neq (T : TypeId) (a b : Bs) : binOp .neq T (sv a) (sv b) = pure (.bool (decide (a ≠ b))) := by
  have h : decide (a ≠ b) = !(a == b) := by rw [Bool.eq_iff_iff, decide_eq_true_iff, Bool.not_eq_true', beq_eq_false_iff_ne]
  rw [h, binOp_string_neq, Lib.toList_data, Lib.toList_data, ss_list, ss_list]
theorem s_at {P : Program} {T : TypeId} (hT : P.underlying T = some .string) (l : Bs) (i : Nat) (hi : i < l.length) (W : World) : (Instr.index T (sv l) (.int .i64 (i : Int))).run P W = .ok (.int .u8 (l[i].toNat : Int)) W := by
  rw [run_index_string W T _ _ _ hT, dif_pos (by rw [ss_size]; omega)]
  unfold ss
  simp [ByteArray.getElem_eq_getElem_data]
theorem s_at0 {P : Program} {T : TypeId} (hT : P.underlying T = some .string) (c : UInt8) (r : Bs) (W : World) : (Instr.index T (sv (c :: r)) (.int .i64 0)).run P W = .ok (.int .u8 (c.toNat : Int)) W := s_at hT (c :: r) 0 (by simp) W
theorem ext_drop (l : Bs) (k : Nat) : (ss l).extract k (ss l).size = ss (l.drop k) := by
  rw [ss_of ((ss l).extract k (ss l).size), Lib.extract_data, ss_list, ss_size, List.take_of_length_le (by rw [List.length_drop]; omega)]
theorem ext_take (l : Bs) (k : Nat) : (ss l).extract 0 k = ss (l.take k) := by
  rw [ss_of ((ss l).extract 0 k), Lib.extract_data, ss_list, List.drop_zero, Nat.sub_zero]
theorem s_drop {P : Program} {T : TypeId} (hT : P.underlying T = some .string) (l : Bs) (k : Nat) (hk : k ≤ l.length) (W : World) : (Instr.slice T (sv l) (some (.int .i64 (k : Int))) none none).run P W = .ok (sv (l.drop k)) W := by
  rw [run_slice_string_from_if W T (ss l) .i64 _ hT, if_pos ⟨by omega, by rw [ss_size]; omega⟩, Int.toNat_natCast, ext_drop]
theorem s_take {P : Program} {T : TypeId} (hT : P.underlying T = some .string) (l : Bs) (k : Nat) (hk : k ≤ l.length) (W : World) : (Instr.slice T (sv l) none (some (.int .i64 (k : Int))) none).run P W = .ok (sv (l.take k)) W := by
  rw [run_slice_string_to_if W T (ss l) .i64 _ hT, if_pos ⟨by omega, by rw [ss_size]; omega⟩, Int.toNat_natCast, ext_take]
theorem i_eql (T : TypeId) (k : IntKind) (a b : Int) : binOp .eql T (.int k a) (.int k b) = pure (.bool (decide (a = b))) := by
  have h : decide (a = b) = (a == b) := by rw [Bool.eq_iff_iff, decide_eq_true_iff, beq_iff_eq]
  rw [h, binOp_eql]
theorem i_neq (T : TypeId) (k : IntKind) (a b : Int) : binOp .neq T (.int k a) (.int k b) = pure (.bool (decide (a ≠ b))) := by
  have h : decide (a ≠ b) = (a != b) := by rw [Bool.eq_iff_iff, decide_eq_true_iff, bne_iff_ne]
  rw [h, binOp_neq]
theorem dw_nil {p : UInt8 → Bool} {l : Bs} : l.dropWhile p = [] ↔ l.all p = true := by
  induction l with
  | nil => simp
  | cons c l ih =>
    rw [List.dropWhile_cons, List.all_cons]
    split
    · rename_i h; rw [ih, h, Bool.true_and]
    · rename_i h; simp [h]

set_option maxHeartbeats 400000 in
theorem isWord_any (l : Bs) (w : World) :
    Calls Tryz.prog 33 #[sv l] w fun e w' => e = .returned (.bool (wordB l)) ∧ Below w.heap.size w w' := by
  cases l with
  | nil =>
    have hne : binOp .neq 9 (sv []) (.string ⟨#[]⟩) = pure (.bool false) := s_neq _ [] []
    go_enter Tryz.func33, Tryz.ntmps33
    go_wp2_with fail
    go_ret
    exact ⟨rfl, Below.refl _ _⟩
  | cons c r =>
    have hne : binOp .neq 9 (sv (c :: r)) (.string ⟨#[]⟩) = pure (.bool true) := s_neq _ (c :: r) []
    have hix := s_at0 Tryz.underlying9 c r
    have HI := hideIt (ixL_any c)
    have HT := hideIt (trimA_any (c :: r))
    have heq : binOp .eql 9 (sv ((c :: r).dropWhile alnB)) (.string ⟨#[]⟩) = pure (.bool (decide ((c :: r).dropWhile alnB = []))) := s_eql _ _ []
    obtain ⟨bb, hb⟩ : ∃ bb, bb = wordB (c :: r) := ⟨_, rfl⟩
    rw [← hb]
    have hbb : bb = (letB c && decide ((c :: r).dropWhile alnB = [])) := by
      rw [hb]
      show (letB c && (c :: r).all alnB) = _
      congr 1
      rw [Bool.eq_iff_iff, decide_eq_true_iff]
      exact dw_nil.symm
    have HB := hideIt hbb
    generalize (c :: r).dropWhile alnB = d at *
    clear hb hbb
    cases hl : letB c with
    | false =>
      rw [hl] at HI
      have HB : Hid (bb = false) := by rw [HB.out, hl]; rfl
      clear hl
      go_enter Tryz.func33, Tryz.ntmps33
      go_wp2_with (go_at_call 27; refine (HI.out _).mono ?_; rintro e w' ⟨z, rfl, hz, rfl⟩; have hz := of_decide_eq_false hz)
      go_ret
      exact ⟨by rw [HB.out]; rfl, Below.refl _ _⟩
    | true =>
      rw [hl] at HI
      have HB : Hid (bb = decide (d = [])) := by rw [HB.out, hl]; rfl
      clear hl
      go_enter Tryz.func33, Tryz.ntmps33
      go_wp2_with (first
        | (go_at_call 27; refine (HI.out _).mono ?_; rintro e w' ⟨z, rfl, hz, rfl⟩; have hz := of_decide_eq_true hz)
        | (go_at_call 57; refine (HT.out _).mono ?_; rintro e w' ⟨rfl, hw⟩; have HW := hideIt hw; clear hw))
      go_ret
      exact ⟨by rw [HB.out]; rfl, HW.out⟩

set_option maxHeartbeats 400000 in
theorem isNumber_any (l : Bs) (w : World) :
    Calls Tryz.prog 105 #[sv l] w fun e w' => e = .returned (.bool (numB l)) ∧ Below w.heap.size w w' := by
  cases l with
  | nil =>
    have h48 : binOp .eql 9 (sv []) (.string ⟨#[48]⟩) = pure (.bool false) := s_eql _ [] [48]
    have hne : binOp .neq 9 (sv []) (.string ⟨#[]⟩) = pure (.bool false) := s_neq _ [] []
    go_enter Tryz.func105, Tryz.ntmps105
    go_wp2_with fail
    go_ret
    exact ⟨rfl, Below.refl _ _⟩
  | cons c r =>
    have h48 : binOp .eql 9 (sv (c :: r)) (.string ⟨#[48]⟩) = pure (.bool (decide (c :: r = [48]))) := s_eql _ _ [48]
    have hne : binOp .neq 9 (sv (c :: r)) (.string ⟨#[]⟩) = pure (.bool true) := s_neq _ (c :: r) []
    have hix := s_at0 Tryz.underlying9 c r
    have hcc : binOp .neq 5 (.int .u8 (c.toNat : Int)) (.int .u8 48) = pure (.bool (decide (c ≠ 48))) := by
      rw [i_neq]
      congr 2
      rw [Bool.eq_iff_iff, decide_eq_true_iff, decide_eq_true_iff, ne_eq, ne_eq, ← UInt8.toNat_inj]
      show ¬ (c.toNat : Int) = 48 ↔ ¬ c.toNat = 48
      omega
    have hln := ss_size (c :: r)
    have HT := hideIt (trimD_any (c :: r))
    have heq : binOp .eql 9 (sv ((c :: r).dropWhile digB)) (.string ⟨#[]⟩) = pure (.bool (decide ((c :: r).dropWhile digB = []))) := s_eql _ _ []
    obtain ⟨bb, hb⟩ : ∃ bb, bb = numB (c :: r) := ⟨_, rfl⟩
    rw [← hb]
    have hbb : bb = (decide (c :: r = [48]) || (decide (c ≠ 48) && decide ((c :: r).length ≤ 5) && decide ((c :: r).dropWhile digB = []))) := by
      rw [hb]
      unfold numB
      have e1 : decide (c :: r ≠ []) = true := decide_eq_true (by simp)
      have e2 : decide ((c :: r).head? ≠ some 48) = decide (c ≠ 48) := by simp
      have e3 : (c :: r).all digB = decide ((c :: r).dropWhile digB = []) := by
        rw [Bool.eq_iff_iff, decide_eq_true_iff]
        exact dw_nil.symm
      rw [e1, e2, e3, Bool.true_and]
    have HB := hideIt hbb
    generalize (c :: r).dropWhile digB = d at *
    generalize (c :: r).length = n at *
    obtain ⟨q, hq⟩ : ∃ q, q = decide (c :: r = [48]) := ⟨_, rfl⟩
    rw [← hq] at h48 HB
    clear hb hbb hq
    cases q with
    | true =>
      have HB : Hid (bb = true) := by rw [HB.out]; rfl
      go_enter Tryz.func105, Tryz.ntmps105
      go_wp2_with fail
      go_ret
      exact ⟨by rw [HB.out]; rfl, Below.refl _ _⟩
    | false =>
      by_cases hc : c = 48
      · have HB : Hid (bb = false) := by rw [HB.out, hc]; rfl
        rw [decide_eq_false (fun h => h hc)] at hcc
        clear hc
        go_enter Tryz.func105, Tryz.ntmps105
        go_wp2_with fail
        go_ret
        exact ⟨by rw [HB.out]; rfl, Below.refl _ _⟩
      · rw [decide_eq_true hc] at hcc HB
        clear hc
        by_cases h5 : n ≤ 5
        · have h5i : ((ss (c :: r)).size : Int) ≤ 5 := by omega
          have HB : Hid (bb = decide (d = [])) := by rw [HB.out, decide_eq_true h5]; rfl
          clear hln h5
          go_enter Tryz.func105, Tryz.ntmps105
          go_wp2_with (go_at_call 57; refine (HT.out _).mono ?_; rintro e w' ⟨rfl, hw⟩; have HW := hideIt hw; clear hw)
          go_ret
          exact ⟨by rw [HB.out]; rfl, HW.out⟩
        · have h5i : ¬ ((ss (c :: r)).size : Int) ≤ 5 := by omega
          have HB : Hid (bb = false) := by rw [HB.out, decide_eq_false h5]; rfl
          clear hln h5
          go_enter Tryz.func105, Tryz.ntmps105
          go_wp2_with fail
          go_ret
          exact ⟨by rw [HB.out]; rfl, Below.refl _ _⟩

set_option maxHeartbeats 400000 in
/-- A text cut behind its first newline. -/
theorem cut_any (l : Bs) (hl : l.length ≤ 2000) (w : World) :
    Calls Tryz.prog 104 #[sv l, .string ⟨#[10]⟩] w fun e w' => ∃ v b, e = .returned (.tuple #[v, sv (cutN l), b]) ∧ Below w.heap.size w w' := by
  have HX := hideIt (fun W => Any.stringslite_Index_one layIx1 (ss l) 10 W)
  rw [ss_list] at HX
  have HI : Hid (∀ W, Calls Tryz.prog 116 #[sv l, .string ⟨#[10]⟩] W fun e w' => ∃ v b, e = .returned (.tuple #[v, sv (cutN l), b]) ∧ Below W.heap.size W w') := by
    intro W
    rcases ix10 l with ⟨k, h1, h2, h3⟩ | ⟨h1, h2⟩
    · rw [h1] at HX
      rw [h3]
      have hadd : binOp .add 3 (.int .i64 (k : Int)) (.int .i64 1) = pure (.int .i64 ((k : Int) + 1)) := by
        rw [binOp_add]
        simp only [Op.intArith]
        rw [IntWalk.i64_in _ (by omega)]
      have hs1 := s_take Tryz.underlying9 l k (by omega)
      have hs2 : ∀ W, (Instr.slice 9 (sv l) (some (.int .i64 ((k : Int) + 1))) none none).run Tryz.prog W = .ok (sv (l.drop (k + 1))) W := s_drop Tryz.underlying9 l (k + 1) (by omega)
      have hk0 : (k : Int) ≥ 0 := by omega
      clear h1 h2 h3 hl
      go_enter Tryz.func116, Tryz.ntmps116
      go_wp2_with (go_at_call 130; refine (HX.out _).mono ?_; rintro e w' ⟨rfl, rfl⟩)
      go_quiet (fail)
      go_wp2_with fail
      go_ret3
      exact ⟨_, _, rfl, below_drewN (Below.refl _ _) _⟩
    · rw [h1] at HX
      rw [h2]
      clear h1 h2
      go_enter Tryz.func116, Tryz.ntmps116
      go_wp2_with (go_at_call 130; refine (HX.out _).mono ?_; rintro e w' ⟨rfl, rfl⟩)
      go_ret3
      exact ⟨_, _, rfl, Below.refl _ _⟩
  clear HX
  go_enter Tryz.func104, Tryz.ntmps104
  go_wp2_with (go_at_call 116; refine (HI.out _).mono ?_; rintro e w' ⟨v, b, rfl, hw⟩; have HW := hideIt hw; clear hw)
  go_ret3
  exact ⟨_, _, rfl, HW.out⟩

theorem sub_c (t : TypeId) (a b : Nat) (h : b ≤ a) (ha : a ≤ 200000) : binOp .sub t (.int .i64 (a : Int)) (.int .i64 (b : Int)) = pure (.int .i64 ((a - b : Nat) : Int)) := by
  rw [binOp_sub]
  simp only [Op.intArith]
  rw [IntWalk.i64_in _ (by omega)]
  congr 2
  omega
theorem len_c (l : Bs) : ((ss l).size : Int) = (l.length : Int) := by rw [ss_size]

set_option maxHeartbeats 1000000 in
set_option maxRecDepth 100000 in
theorem tokenSize_any (l : Bs) (hl : l.length ≤ 2000) (w : World) :
    Calls Tryz.prog 91 #[sv l] w fun e w' => e = .returned (.int .i64 (tsz l : Int)) ∧ Below w.heap.size w w' := by
  cases l with
  | nil =>
    have he : binOp .eql 9 (sv []) (.string ⟨#[]⟩) = pure (.bool true) := s_eql _ [] []
    go_enter Tryz.func91, Tryz.ntmps91
    go_wp2_with fail
    go_ret
    exact ⟨rfl, Below.refl _ _⟩
  | cons c r =>
    have he : binOp .eql 9 (sv (c :: r)) (.string ⟨#[]⟩) = pure (.bool false) := s_eql _ (c :: r) []
    have hix := s_at0 Tryz.underlying9 c r
    have HI := hideIt (fun cs => index_any cs c)
    have hS : decide (Lib.indexByte [123, 125, 59, 58] c ≥ 0) = signB c := csS_ix c
    have hL : decide (Lib.indexByte [97, 98, 99, 100, 101, 102, 103, 104, 105, 106, 107, 108, 109, 110, 111, 112, 113, 114, 115, 116, 117, 118, 119, 120, 121, 122] c ≥ 0) = letB c := csL_ix c
    obtain ⟨q, hq⟩ : ∃ q, q = tsz (c :: r) := ⟨_, rfl⟩
    rw [← hq]
    cases h1 : signB c with
    | true =>
      have HQ : Hid (q = 1) := hq.trans (tsz_sign h1)
      rw [h1] at hS
      have hS := of_decide_eq_true hS
      clear hq h1 hL
      go_enter Tryz.func91, Tryz.ntmps91
      go_wp2_with (go_at_call 27; refine (HI.out _ _).mono ?_; rintro e w' ⟨rfl, rfl⟩)
      go_ret
      exact ⟨by rw [HQ.out]; rfl, Below.refl _ _⟩
    | false =>
      rw [h1] at hS
      have hS := of_decide_eq_false hS
      have hln := len_c (c :: r)
      cases h2 : letB c with
      | true =>
        rw [h2] at hL
        have hL := of_decide_eq_true hL
        have hd := dw_len alnB (c :: r)
        have HQ : Hid (q = (c :: r).length - ((c :: r).dropWhile alnB).length) := hq.trans (tsz_let h2)
        have HT := hideIt (trimA_any (c :: r))
        have hsub := sub_c 3 (c :: r).length ((c :: r).dropWhile alnB).length hd (by omega)
        have hln2 := len_c ((c :: r).dropWhile alnB)
        generalize (c :: r).dropWhile alnB = d at *
        generalize c :: r = l0 at *
        clear hd hq h1 h2
        go_enter Tryz.func91, Tryz.ntmps91
        go_wp2_with (first
          | (go_at_call 27; refine (HI.out _ _).mono ?_; rintro e w' ⟨rfl, rfl⟩)
          | (go_at_call 57; refine (HT.out _).mono ?_; rintro e w' ⟨rfl, hw⟩; have HW := hideIt hw; clear hw))
        go_ret
        exact ⟨by rw [HQ.out]; rfl, HW.out⟩
      | false =>
        rw [h2] at hL
        have hL := of_decide_eq_false hL
        have hd := dw_len digB (c :: r)
        have hk := tw_take digB (c :: r)
        have hdw := tw_dw digB (c :: r)
        have HT := hideIt (trimD_any (c :: r))
        have HQ := hideIt (hq.trans (tsz_dig h1 h2))
        have hsub := sub_c 3 (c :: r).length ((c :: r).dropWhile digB).length hd (by omega)
        have hln2 := len_c ((c :: r).dropWhile digB)
        rw [← hdw] at hsub HQ
        have htk := s_take Tryz.underlying9 (c :: r) ((c :: r).takeWhile digB).length (tw_len _ _)
        rw [hk] at htk
        have HN := hideIt (isNumber_any ((c :: r).takeWhile digB))
        generalize (c :: r).takeWhile digB = d at *
        generalize (c :: r).dropWhile digB = d2 at *
        generalize c :: r = l0 at *
        clear hd hq h1 h2 hk hdw
        cases hn : numB d with
        | true =>
          rw [hn] at HN HQ
          have HQ : Hid (q = d.length) := HQ.out
          clear hn
          go_enter Tryz.func91, Tryz.ntmps91
          go_wp2_with (first
            | (go_at_call 27; refine (HI.out _ _).mono ?_; rintro e w' ⟨rfl, rfl⟩)
            | (go_at_call 57; refine (HT.out _).mono ?_; rintro e w' ⟨rfl, hw⟩; have HW := hideIt hw; clear hw)
            | (go_at_call 105; refine (HN.out _).mono ?_; rintro e w' ⟨rfl, hw⟩; have HW2 := hideIt hw; clear hw))
          go_ret
          exact ⟨by rw [HQ.out]; rfl, HW.out.trans (HW2.out.mono HW.out.size)⟩
        | false =>
          rw [hn] at HN HQ
          have HQ : Hid (q = 0) := HQ.out
          clear hn
          go_enter Tryz.func91, Tryz.ntmps91
          go_wp2_with (first
            | (go_at_call 27; refine (HI.out _ _).mono ?_; rintro e w' ⟨rfl, rfl⟩)
            | (go_at_call 57; refine (HT.out _).mono ?_; rintro e w' ⟨rfl, hw⟩; have HW := hideIt hw; clear hw)
            | (go_at_call 105; refine (HN.out _).mono ?_; rintro e w' ⟨rfl, hw⟩; have HW2 := hideIt hw; clear hw))
          go_ret
          exact ⟨by rw [HQ.out]; rfl, HW.out.trans (HW2.out.mono HW.out.size)⟩

set_option maxHeartbeats 1000000 in
theorem skipGap_any (l : Bs) (hl : l.length ≤ 2000) (w : World) :
    Calls Tryz.prog 90 #[sv l] w fun e w' => e = .returned (sv (gapD l)) ∧ Below w.heap.size w w' := by
  have HT := hideIt (fun (l : Bs) => trimB_any l)
  have HH := hideIt (fun (l : Bs) => hash_any l)
  have HC := hideIt (fun (l : Bs) (h : l.length ≤ 2000) => cut_any l h)
  have HL := hideIt hl
  have HD := hideIt (dw_len blank l)
  obtain ⟨z, hz⟩ : ∃ z, z = gapD l := ⟨_, rfl⟩
  rw [← hz]
  have HZ := hideIt ((gapD_tw l).trans hz.symm)
  have HB0 := hideIt (fun c x (h : l.dropWhile blank = c :: x) => dw_head h)
  clear hz hl
  go_enter Tryz.func90, Tryz.ntmps90
  go_wp2_with (go_at_call 57; refine (HT.out _ _).mono ?_; rintro e w' ⟨rfl, hw⟩; have HW := hideIt hw; clear hw)
  go_loopg [0] (l.dropWhile blank).length (fun g s0 wr => ∃ (x : Bs), g = x.length ∧ s0 = sv x ∧ Aside (gapD x = z ∧ x.length ≤ 2000 ∧ (∀ c y, x = c :: y → blank c = false) ∧ Below w.heap.size w wr))
  case atStart => exact ⟨_, rfl, rfl, HZ.out, Nat.le_trans HD.out HL.out, fun c y h => HB0.out c y h, HW.out⟩
  case round =>
    obtain ⟨x, rfl, rfl, HI⟩ := hrel
    cases hh : hashB x with
    | false =>
      have HX := hideIt (HH.out x)
      rw [hh] at HX
      have HE : Hid (x = z) := by
        rw [← HI.out.1]
        exact (gapD_stop fun c y h => ⟨HI.out.2.2.1 c y h, fun hc => by rw [h] at hh; exact absurd hh (by unfold hashB; rw [hc]; simp)⟩).symm
      clear hh
      go_wp2_with (go_at_call 103; refine (HX.out _).mono ?_; rintro e w' ⟨rfl, rfl⟩)
      go_ret
      exact ⟨by rw [HE.out]; rfl, HI.out.2.2.2⟩
    | true =>
      have HX := hideIt (HH.out x)
      rw [hh] at HX
      obtain ⟨r, rfl⟩ : ∃ r, x = 35 :: r := by
        cases x with
        | nil => exact absurd hh (by simp [hashB])
        | cons c r => exact ⟨r, by unfold hashB at hh; rw [of_decide_eq_true hh]⟩
      have HS := hideIt (gapS_gap r)
      have HSL := hideIt (gapS_len (c := 35) (r := r))
      have HCU := hideIt (HC.out (35 :: r) HI.out.2.1)
      have HT2 := hideIt (HT.out (cutN (35 :: r)))
      have HDH := hideIt (fun c y (h : (cutN (35 :: r)).dropWhile blank = c :: y) => dw_head h)
      clear hh
      go_wp2_with (first
        | (go_at_call 103; refine (HX.out _).mono ?_; rintro e w' ⟨rfl, rfl⟩)
        | (go_at_call 104; refine (HCU.out _).mono ?_; rintro e w' ⟨v, b, rfl, hw⟩; have HW1 := hideIt hw; clear hw)
        | (go_at_call 57; refine (HT2.out _).mono ?_; rintro e w' ⟨rfl, hw⟩; have HW2 := hideIt hw; clear hw))
      go_roundg (gapS (35 :: r)).length
      case measure => exact HSL.out
      case rel => exact ⟨_, rfl, rfl, HS.out.trans HI.out.1, by have := HSL.out; have := HI.out.2.1; omega, HDH.out, HI.out.2.2.2.trans ((HW1.out.mono HI.out.2.2.2.size).trans (HW2.out.mono (Nat.le_trans HI.out.2.2.2.size HW1.out.size)))⟩

end Go.Proofs.YtcogkdnlpjfgdaaGreatDoor
