/-
  What stage 9 stands on, cut out of older texts. (CodL, LayB, LpA, RlE, RlP, RlI, LpB, LpC, RlF.)
-/
import Derived.Shelf.LaysC
import Derived.Shelf.Strings.BuilderX
import Derived.Test.YtkfahoaiialndaaGreatDoorRows
import Derived.Shelf.Strconv.Itoa3
import Derived.Shelf.Strings.Builder1
import Derived.Lib.LaidTab
import Derived.StillTailTactics
import Derived.Maps.AppendAt
import Derived.Test.YtkfahoaiialndaaGreatDoorD9a
import Derived.Test.YtkfahoaiialndaaGreatDoorD9d
import Derived.Test.YtkfahoaiialndaaGreatDoorD9h
namespace Go.Proofs.YtkfahoaiialndaaGreatDoor
set_option linter.unusedVariables false
set_option linter.unusedSimpArgs false
set_option linter.unusedSectionVars false

section
open Go.RowKit
set_option linter.unusedVariables false
set_option linter.unusedSimpArgs false
theorem inc_w (t : TypeId) (j : Nat) (h : j < 9223372036854775807) : binOp .add t (.int .i64 (j : Int)) (.int .i64 1) = pure (.int .i64 ((j + 1 : Nat) : Int)) := by
  rw [binOp_add]
  simp only [Op.intArith]
  rw [IntWalk.i64_in _ (by omega)]
  rfl
end

section
open Go.RowKit
set_option linter.unusedVariables false
set_option linter.unusedSimpArgs false
theorem rletter_any (c : UInt8) (w : World) : Calls Tryz.prog 86 #[.int .u8 (c.toNat : Int)] w fun e w' => e = .returned (.bool (letB c)) ∧ w = w' := by
  have hb : letB c = decide (97 ≤ (c.toNat : Int) ∧ (c.toNat : Int) ≤ 122) := by
    unfold letB
    rw [Bool.eq_iff_iff, decide_eq_true_iff, decide_eq_true_iff]
    omega
  rw [hb]
  generalize (c.toNat : Int) = n at *
  clear hb
  by_cases h1 : n ≥ 97
  · by_cases h2 : n ≤ 122
    · rw [decide_eq_true ⟨h1, h2⟩]
      go_enter Tryz.func86, Tryz.ntmps86
      go_wp2_with fail
      go_ret
      exact ⟨rfl, rfl⟩
    · rw [decide_eq_false (fun h => h2 h.2)]
      go_enter Tryz.func86, Tryz.ntmps86
      go_wp2_with fail
      go_ret
      exact ⟨rfl, rfl⟩
  · rw [decide_eq_false (fun h => h1 h.1)]
    go_enter Tryz.func86, Tryz.ntmps86
    go_wp2_with fail
    go_ret
    exact ⟨rfl, rfl⟩
theorem rdigit_any (c : UInt8) (w : World) : Calls Tryz.prog 87 #[.int .u8 (c.toNat : Int)] w fun e w' => e = .returned (.bool (digB c)) ∧ w = w' := by
  have hb : digB c = decide (48 ≤ (c.toNat : Int) ∧ (c.toNat : Int) ≤ 57) := by
    unfold digB
    rw [Bool.eq_iff_iff, decide_eq_true_iff, decide_eq_true_iff]
    omega
  rw [hb]
  generalize (c.toNat : Int) = n at *
  clear hb
  by_cases h1 : n ≥ 48
  · by_cases h2 : n ≤ 57
    · rw [decide_eq_true ⟨h1, h2⟩]
      go_enter Tryz.func87, Tryz.ntmps87
      go_wp2_with fail
      go_ret
      exact ⟨rfl, rfl⟩
    · rw [decide_eq_false (fun h => h2 h.2)]
      go_enter Tryz.func87, Tryz.ntmps87
      go_wp2_with fail
      go_ret
      exact ⟨rfl, rfl⟩
  · rw [decide_eq_false (fun h => h1 h.1)]
    go_enter Tryz.func87, Tryz.ntmps87
    go_wp2_with fail
    go_ret
    exact ⟨rfl, rfl⟩
theorem rtop_any (f : Int) (w : World) : Calls Tryz.prog 59 #[.int .i64 f] w fun e w' => e = .returned (.int .i64 (topF f)) ∧ w = w' := by
  unfold topF
  have h8 := i_eql 3 .i64 f 8
  by_cases h : f = 8
  · rw [decide_eq_true h] at h8
    rw [if_pos h]
    clear h
    go_enter Tryz.func59, Tryz.ntmps59
    go_wp2_with fail
    go_ret
    exact ⟨rfl, rfl⟩
  · rw [decide_eq_false h] at h8
    rw [if_neg h]
    clear h
    go_enter Tryz.func59, Tryz.ntmps59
    go_wp2_with fail
    go_ret
    exact ⟨rfl, rfl⟩
set_option maxHeartbeats 1000000 in
theorem rword_any (l : Bs) (hl : l.length ≤ 9223372036854775807) (w : World) : Calls Tryz.prog 58 #[svL l] w fun e w' => e = .returned (.bool (wordB l)) ∧ w = w' := by
  have hnot := not_b
  cases l with
  | nil =>
    have hne : binOp .eql 9 (svL []) (.string ⟨#[]⟩) = pure (.bool true) := s_eql _ [] []
    go_enter Tryz.func58, Tryz.ntmps58
    go_wp2_with fail
    go_ret
    exact ⟨rfl, rfl⟩
  | cons c r =>
    have hne : binOp .eql 9 (svL (c :: r)) (.string ⟨#[]⟩) = pure (.bool false) := s_eql _ (c :: r) []
    have hix := s_at0 Tryz.underlying9 c r
    have HL := hideIt (rletter_any c)
    obtain ⟨bb, hb⟩ : ∃ bb, bb = wordB (c :: r) := ⟨_, rfl⟩
    rw [← hb]
    have HB := hideIt hb
    clear hb
    cases hc : letB c with
    | false =>
      rw [hc] at HL
      have HB : Hid (bb = false) := by
        have := HB.out
        rw [wordB, hc] at this
        exact this
      clear hc
      go_enter Tryz.func58, Tryz.ntmps58
      go_wp2_with (go_at_call 86; refine (HL.out _).mono ?_; rintro e w' ⟨rfl, rfl⟩)
      go_ret
      exact ⟨by rw [HB.out]; rfl, rfl⟩
    | true =>
      rw [hc] at HL
      have HB : Hid (bb = (c :: r).all alnB) := by
        have := HB.out
        rw [wordB, hc] at this
        exact this
      clear hc
      have hln := len_c (c :: r)
      have HX := hideIt (fun i hi => s_at Tryz.underlying9 (c :: r) i hi)
      generalize hl2 : c :: r = l at *
      obtain ⟨n, hn⟩ : ∃ n, n = l.length := ⟨_, rfl⟩
      rw [← hn] at hln hl
      have HN := hideIt hn
      clear hn hl2
      go_enter Tryz.func58, Tryz.ntmps58
      go_wp2_with (go_at_call 86; refine (HL.out _).mono ?_; rintro e w' ⟨rfl, rfl⟩)
      go_loopg [3] n (fun gk s3 wr => ∃ j : Nat, j + gk = n ∧ s3 = .int .i64 (j : Int) ∧ wr = w ∧ Aside ((l.take j).all alnB = true))
      case atStart => exact ⟨0, by omega, rfl, rfl, rfl⟩
      case round =>
        obtain ⟨j, hj, rfl, rfl, HI⟩ := hrel
        by_cases hlt : j < n
        · have hjl : j < l.length := by rw [← HN.out]; exact hlt
          have hxj := HX.out j hjl
          have HT := hideIt (take_snoc l j hjl)
          have HM := hideIt (List.getElem_mem hjl)
          have hinc := inc_w 3 j (by omega)
          have hji : (j : Int) < (n : Int) := by omega
          generalize l[j] = x at *
          have HLX := hideIt (rletter_any x)
          have HDX := hideIt (rdigit_any x)
          clear hjl
          cases h1 : letB x with
          | true =>
            rw [h1] at HLX
            have HAL : Hid (alnB x = true) := by show alnB x = true; unfold alnB; rw [h1]; rfl
            clear h1
            go_wp2_with (go_at_call 86; refine (HLX.out _).mono ?_; rintro e w' ⟨rfl, rfl⟩)
            go_roundg (gk - 1)
            case measure => omega
            case rel =>
              refine ⟨j + 1, by omega, by go_num, rfl, ?_⟩
              show (l.take (j + 1)).all alnB = true
              rw [HT.out, List.all_append, HI.out]
              simp [HAL.out]
          | false =>
            rw [h1] at HLX
            cases h2 : digB x with
            | true =>
              rw [h2] at HDX
              have HAL : Hid (alnB x = true) := by show alnB x = true; unfold alnB; rw [h1, h2]; rfl
              clear h1 h2
              go_wp2_with (first
                | (go_at_call 86; refine (HLX.out _).mono ?_; rintro e w' ⟨rfl, rfl⟩)
                | (go_at_call 87; refine (HDX.out _).mono ?_; rintro e w' ⟨rfl, rfl⟩))
              go_roundg (gk - 1)
              case measure => omega
              case rel =>
                refine ⟨j + 1, by omega, by go_num, rfl, ?_⟩
                show (l.take (j + 1)).all alnB = true
                rw [HT.out, List.all_append, HI.out]
                simp [HAL.out]
            | false =>
              rw [h2] at HDX
              have HAL : Hid (alnB x = false) := by show alnB x = false; unfold alnB; rw [h1, h2]; rfl
              clear h1 h2
              go_wp2_with (first
                | (go_at_call 86; refine (HLX.out _).mono ?_; rintro e w' ⟨rfl, rfl⟩)
                | (go_at_call 87; refine (HDX.out _).mono ?_; rintro e w' ⟨rfl, rfl⟩))
              go_ret
              refine ⟨?_, rfl⟩
              rw [HB.out, List.all_eq_false.2 ⟨x, HM.out, by rw [HAL.out]; decide⟩]; rfl
        · have hji : ¬ (j : Int) < (n : Int) := by omega
          have HE : Hid (l.all alnB = true) := by
            have := HI.out
            rw [List.take_of_length_le (by rw [← HN.out]; omega)] at this
            exact this
          go_wp2_with fail
          go_ret
          exact ⟨by rw [HB.out, HE.out]; rfl, rfl⟩
end

section
open Go.RowKit
set_option linter.unusedVariables false
set_option linter.unusedSimpArgs false
def sumI (l : List Int) : Int := l.foldr (· + ·) 0
theorem sumI_snoc (l : List Int) (x : Int) : sumI (l ++ [x]) = sumI l + x := by
  unfold sumI
  induction l with
  | nil => simp
  | cons y r ih => rw [List.cons_append, List.foldr_cons, List.foldr_cons, ih]; omega
theorem sumI_zero : ∀ (l : List Int), (∀ x ∈ l, 0 ≤ x) → 0 ≤ sumI l ∧ (sumI l = 0 ↔ l.any (fun x => decide (x ≠ 0)) = false)
  | [], _ => by simp [sumI]
  | x :: r, h => by
    have h1 := sumI_zero r (fun y hy => h y (by simp [hy]))
    have h2 := h x (by simp)
    have e : sumI (x :: r) = x + sumI r := rfl
    rw [e, List.any_cons]
    refine ⟨by omega, ?_⟩
    rw [Bool.or_eq_false_iff, ← h1.2, decide_eq_false_iff_not]
    omega
theorem sumI_le (m : Nat) : ∀ (l : List Int), (∀ x ∈ l, x ≤ m) → sumI l ≤ m * l.length
  | [], _ => by simp [sumI]
  | x :: r, h => by
    have h1 := sumI_le m r (fun y hy => h y (by simp [hy]))
    have h2 := h x (by simp)
    have e : sumI (x :: r) = x + sumI r := rfl
    rw [e, List.length_cons]
    push_cast
    rw [Int.mul_add]
    omega
theorem topF_bd (f : Int) : 0 ≤ topF f ∧ topF f ≤ 65535 := by unfold topF; split <;> omega
theorem rowOk_iff (f d : Int) (l : List Int) : rowOkL f d l = (decide ((l.length : Int) = d) && l.all (fun x => decide (0 ≤ x ∧ x ≤ topF f)) && l.any (fun x => decide (x ≠ 0))) := rfl
set_option maxHeartbeats 4000000 in
set_option maxRecDepth 100000 in
theorem rcheck_any (x : Cd) (A : Option Addr) (c : Nat) (w : World) (hx : CIn w x A) (hnm : x.name.length ≤ 9223372036854775807) :
    Calls Tryz.prog 41 #[cdVL x.name x.field x.data (.slice A x.par.length c) x.dom] w fun e w' => e = .returned (.int .i64 (checkX x)) ∧ Below w.heap.size w w' := by
  obtain ⟨W1, hW1⟩ : ∃ W1, W1 = w.alloc (.cells #[svL x.name, .int .i64 x.field, .int .i64 x.data, .slice A x.par.length c, .int .i64 x.dom] 24) := ⟨_, rfl⟩
  have HBL : Hid (Below w.heap.size w W1) := by rw [hW1]; exact below_new w _
  have hb1 : Blk W1 w.heap.size 24 [svL x.name, .int .i64 x.field, .int .i64 x.data, .slice A x.par.length c, .int .i64 x.dom] := by
    rw [hW1]; exact Blk.new w 24 [svL x.name, .int .i64 x.field, .int .i64 x.data, .slice A x.par.length c, .int .i64 x.dom]
  have HX := hideIt (hx.pm.below HBL.out)
  have HLX := hideIt hx.lens
  have hlx := hx.len
  have r0 := hb1.cell 0
  have r1 := hb1.cell 1
  have r2 := hb1.cell 2
  have r3 := hb1.cell 3
  have r4 := hb1.cell 4
  rw [hW1] at r0 r1 r2 r3 r4
  have HW1 := hideIt hW1
  have HB1 := hideIt hb1
  have HWD := hideIt (rword_any x.name hnm)
  have hln := len_c x.name
  have hnot := not_b
  have hwid : binOp .add 3 (.int .i64 x.data) (.int .i64 (x.par.length : Int)) = pure (.int .i64 (widX x)) := by rw [binOp_add]; rfl
  obtain ⟨R, hR⟩ : ∃ R, R = checkX x := ⟨_, rfl⟩
  rw [← hR]
  unfold checkX at hR
  generalize widX x = z at *
  generalize x.par = xs at *
  generalize x.name = nm at *
  generalize x.field = f at *
  generalize x.data = d at *
  generalize x.dom = dm at *
  obtain ⟨n, hn⟩ : ∃ n, n = xs.length := ⟨_, rfl⟩
  rw [← hn] at hlx r3 HB1 HW1 hwid hR
  rw [← hn]
  have HN := hideIt hn
  have HFIN : Hid (∀ W, W = w.alloc (.cells #[svL nm, .int .i64 f, .int .i64 d, .slice A n c, .int .i64 dm] 24) → Below w.heap.size w W) := fun W h => by rw [h, ← HW1.out]; exact HBL.out
  clear hb1 hW1 hx hn
  by_cases q1 : wordB nm = false
  · rw [if_pos q1] at hR
    rw [q1] at HWD
    have HR := hideIt hR
    clear q1 hR
    go_enter Tryz.func41, Tryz.ntmps41
    go_wp2_with (go_at_call 58; refine (HWD.out _).mono ?_; rintro e w1 ⟨rfl, rfl⟩)
    go_ret
    exact ⟨by rw [HR.out]; rfl, HFIN.out _ rfl⟩
  rw [if_neg q1] at hR
  rw [Bool.not_eq_false] at q1
  rw [q1] at HWD
  clear q1
  by_cases q2 : 12 < nm.length
  · rw [if_pos q2] at hR
    have hgt : (nm.length : Int) > 12 := by omega
    have HR := hideIt hR
    clear q2 hR hnm
    go_enter Tryz.func41, Tryz.ntmps41
    go_wp2_with (go_at_call 58; refine (HWD.out _).mono ?_; rintro e w1 ⟨rfl, rfl⟩)
    go_ret
    exact ⟨by rw [HR.out]; rfl, HFIN.out _ rfl⟩
  rw [if_neg q2] at hR
  have hgt : ¬ (nm.length : Int) > 12 := by omega
  clear q2 hnm
  have h8 := i_neq 3 .i64 f 8
  have h16 := i_neq 3 .i64 f 16
  by_cases q3 : fieldB f = false
  · rw [if_pos q3] at hR
    have hf : f ≠ 8 ∧ f ≠ 16 := by
      have := of_decide_eq_false q3
      exact ⟨fun h => this (.inl h), fun h => this (.inr h)⟩
    rw [decide_eq_true hf.1] at h8
    rw [decide_eq_true hf.2] at h16
    have HR := hideIt hR
    clear q3 hf hR
    go_enter Tryz.func41, Tryz.ntmps41
    go_wp2_with (go_at_call 58; refine (HWD.out _).mono ?_; rintro e w1 ⟨rfl, rfl⟩)
    go_ret
    exact ⟨by rw [HR.out]; rfl, HFIN.out _ rfl⟩
  rw [if_neg q3] at hR
  have HF8 : Hid ((decide (f ≠ 8) = false) ∨ (decide (f ≠ 8) = true ∧ decide (f ≠ 16) = false)) := by
    rw [Bool.not_eq_false] at q3
    have q3 := of_decide_eq_true q3
    rcases q3 with h | h
    · exact .inl (decide_eq_false (fun q => q h))
    · exact .inr ⟨decide_eq_true (by omega), decide_eq_false (fun q => q h)⟩
  clear q3
  generalize decide (f ≠ 8) = f8 at *
  generalize decide (f ≠ 16) = f16 at *
  by_cases q4 : dataB d = false
  · rw [if_pos q4] at hR
    have hd : d < 1 ∨ (¬ d < 1 ∧ d > 31) := by
      have := of_decide_eq_false q4
      omega
    have HR := hideIt hR
    clear q4 hR
    have hf8 := HF8.out
    clear HF8
    rcases hf8 with rfl | ⟨rfl, rfl⟩ <;> rcases hd with hd | ⟨hd, hd2⟩ <;>
    · go_enter Tryz.func41, Tryz.ntmps41
      go_wp2_with (go_at_call 58; refine (HWD.out _).mono ?_; rintro e w1 ⟨rfl, rfl⟩)
      go_ret
      exact ⟨by rw [HR.out]; rfl, HFIN.out _ rfl⟩
  rw [if_neg q4] at hR
  rw [Bool.not_eq_false] at q4
  have hd := of_decide_eq_true q4
  obtain ⟨dn, rfl⟩ : ∃ k : Nat, d = (k : Int) := ⟨d.toNat, by omega⟩
  clear q4
  have hd1 : ¬ (dn : Int) < 1 := by omega
  have hd2 : ¬ (dn : Int) > 31 := by omega
  have hn0 := i_eql 3 .i64 (n : Int) 0
  by_cases q5 : n = 0
  · rw [if_pos q5] at hR
    rw [decide_eq_true (by omega)] at hn0
    have HR := hideIt hR
    clear q5 hR hd
    have hf8 := HF8.out
    clear HF8
    rcases hf8 with rfl | ⟨rfl, rfl⟩ <;>
    · go_enter Tryz.func41, Tryz.ntmps41
      go_wp2_with (go_at_call 58; refine (HWD.out _).mono ?_; rintro e w1 ⟨rfl, rfl⟩)
      go_ret
      exact ⟨by rw [HR.out]; rfl, HFIN.out _ rfl⟩
  rw [if_neg q5] at hR
  rw [decide_eq_false (by omega)] at hn0
  clear q5
  by_cases q6 : 32 < z
  · rw [if_pos q6] at hR
    have hz : z > 32 := q6
    have HR := hideIt hR
    clear q6 hR hd
    have hf8 := HF8.out
    clear HF8
    rcases hf8 with rfl | ⟨rfl, rfl⟩ <;>
    · go_enter Tryz.func41, Tryz.ntmps41
      go_wp2_with (go_at_call 58; refine (HWD.out _).mono ?_; rintro e w1 ⟨rfl, rfl⟩)
      go_ret
      exact ⟨by rw [HR.out]; rfl, HFIN.out _ rfl⟩
  rw [if_neg q6] at hR
  have hz : ¬ z > 32 := q6
  have HR := hideIt hR
  have HT := hideIt (rtop_any f)
  have HTB := hideIt (topF_bd f)
  have HD := hideIt hd
  clear q6 hR hd
  have hf8 := HF8.out
  clear HF8
  rcases hf8 with rfl | ⟨rfl, rfl⟩ <;>
  · go_enter Tryz.func41, Tryz.ntmps41
    go_wp2_with (go_at_call 58; refine (HWD.out _).mono ?_; rintro e w1 ⟨rfl, rfl⟩)
    rw [← HW1.out]
    clear r0 r1 r2 r3 r4 h8 h16 hn0 hgt hln hd1 hd2 hz
    go_loopg [4] n (fun gk s4 wr => ∃ i : Nat, i + gk = n ∧ s4 = .int .i64 (i : Int) ∧ Aside ((xs.take i).all (rowOkL f dn) = true ∧ Below W1.heap.size W1 wr))
    case atStart => exact ⟨0, by omega, rfl, rfl, Below.refl _ _⟩
    case round =>
      obtain ⟨i, hi, rfl, HI⟩ := hrel
      have hbk := HB1.out.kept HI.out.2 HB1.out.lt
      have c1 := hbk.cell 1
      have c2 := hbk.cell 2
      have c3 := hbk.cell 3
      have c4 := hbk.cell 4
      clear hbk
      by_cases hlt : i < n
      · have hil : i < xs.length := by rw [← HN.out]; exact hlt
        obtain ⟨b, o, A1, c1', hA, hb, hc, hs1⟩ := HX.out.row hil
        subst hA
        have HC1 := hideIt (fun (W : World) (hW : Below W1.heap.size W1 W) => show W.cell? ⟨b, o + i, none⟩ = some (.slice A1 (xs[i]).length c1') from (hW.cell (p := ⟨b, _, none⟩) (Nat.lt_of_lt_of_le hb HBL.out.size)).trans hc)
        have q1 := HC1.out wr HI.out.2
        have HT1 := hideIt (take_snoc xs i hil)
        have HM := hideIt (List.getElem_mem hil)
        have hl1 := HLX.out _ (List.getElem_mem hil)
        have hinc := inc_w 3 i (by omega)
        have hji : (i : Int) < (n : Int) := by omega
        have HS1 := hideIt hs1
        generalize xs[i] = u at *
        have HBAD : Hid (rowOkL f dn u = false → R = 1) := fun h => HR.out.trans (if_pos (List.all_eq_false.2 ⟨u, HM.out, by rw [h]; decide⟩))
        have HOK : Hid (rowOkL f dn u = true → (xs.take (i + 1)).all (rowOkL f dn) = true) := fun h => by
          rw [HT1.out, List.all_append, HI.out.1]
          simp [h]
        have HRO := hideIt (rowOk_iff f dn u)
        obtain ⟨k, hk⟩ : ∃ k, k = u.length := ⟨_, rfl⟩
        rw [← hk] at hl1 HC1 q1 HRO
        have HK := hideIt hk
        have hln := i_neq 3 .i64 (k : Int) (dn : Int)
        clear hb hc hil hs1 hk
        by_cases he : k = dn
        · subst he
          rw [decide_eq_false (fun h => h rfl)] at hln
          go_wp2_with fail
          go_quiet (fail)
          go_wp2_with fail
          clear q1 c1 c2 c3 c4
          obtain ⟨g0, rfl⟩ : ∃ x, x = gk := ⟨gk, rfl⟩
          generalize hV : wr.drewN _ = V
          have HV : Hid (Below W1.heap.size W1 V) := by rw [← hV]; exact below_drewN HI.out.2 _
          clear hV
          go_loopg [5, 6] k (fun gk s5 s6 wr => ∃ (j : Nat) (sm : Int), j + gk = k ∧ s5 = .int .i64 sm ∧ s6 = .int .i64 (j : Int) ∧ Aside (sm = sumI (u.take j) ∧ (∀ y ∈ u.take j, 0 ≤ y ∧ y ≤ topF f) ∧ Below W1.heap.size W1 wr))
          case atStart => exact ⟨0, 0, by omega, rfl, rfl, rfl, by simp, HV.out⟩
          case round =>
            obtain ⟨j, sm, hj, rfl, rfl, HJ⟩ := hrel
            have hbk := HB1.out.kept HJ.out.2.2 HB1.out.lt
            have c1 := hbk.cell 1
            have c2 := hbk.cell 2
            have c3 := hbk.cell 3
            clear hbk
            have q1 := HC1.out _ HJ.out.2.2
            by_cases hjt : j < k
            · have hju : j < u.length := by rw [← HK.out]; exact hjt
              obtain ⟨e0, p, hA, hd, hc⟩ := HS1.out.num hju
              subst hA
              have q3 := (HJ.out.2.2.cell (p := ⟨e0, p + j, none⟩) (Nat.lt_of_lt_of_le hd HBL.out.size)).trans hc
              have HTu := hideIt (take_snoc u j hju)
              have HMu := hideIt (List.getElem_mem hju)
              have hinc2 := inc_w 3 j (by omega)
              have hjk : (j : Int) < (k : Int) := by omega
              generalize u[j] = y at *
              have HBY : Hid (¬ (0 ≤ y ∧ y ≤ topF f) → R = 1) := fun h => HBAD.out (by
                rw [HRO.out, List.all_eq_false.2 ⟨y, HMu.out, by rw [decide_eq_false h]; decide⟩]
                simp)
              clear hc hd hju
              by_cases hy0 : y < 0
              · have HRR := hideIt (HBY.out (by omega))
                go_wp2_with fail
                go_ret
                exact ⟨by rw [HRR.out]; rfl, HBL.out.trans (HJ.out.2.2.mono HBL.out.size)⟩
              · by_cases hyt : y > topF f
                · have HRR := hideIt (HBY.out (by omega))
                  generalize topF f = tp at *
                  go_wp2_with (go_at_call 59; refine (HT.out _).mono ?_; rintro e w2 ⟨rfl, rfl⟩)
                  go_ret
                  exact ⟨by rw [HRR.out]; rfl, HBL.out.trans (HJ.out.2.2.mono HBL.out.size)⟩
                · have hst := HTB.out
                  have hsb : sm ≤ 65535 * j := by
                    have := sumI_le 65535 (u.take j) (fun y hy => by have := HJ.out.2.1 y hy; omega)
                    rw [← HJ.out.1, List.length_take, Nat.min_eq_left (by have := HK.out; omega)] at this
                    omega
                  have hs0 : 0 ≤ sm := by rw [HJ.out.1]; exact (sumI_zero _ (fun y hy => (HJ.out.2.1 y hy).1)).1
                  have hkk : k ≤ 31 := by have := HD.out; omega
                  have hadd : binOp .add 3 (.int .i64 sm) (.int .i64 y) = pure (.int .i64 (sm + y)) := by
                    rw [binOp_add]
                    simp only [Op.intArith]
                    rw [IntWalk.i64_in _ (by omega)]
                  have HS2 : Hid (sm + y = sumI (u.take (j + 1))) := by
                    show _ = _
                    rw [HTu.out, sumI_snoc, ← HJ.out.1]
                  have HA2 : Hid (∀ v ∈ u.take (j + 1), 0 ≤ v ∧ v ≤ topF f) := fun v hv => by
                    rw [HTu.out] at hv
                    rcases List.mem_append.1 hv with hv | hv
                    · exact HJ.out.2.1 v hv
                    · rw [List.mem_singleton] at hv; omega
                  generalize sm + y = sm2 at *
                  clear hst hsb hs0
                  generalize topF f = tp at *
                  go_wp2_with (go_at_call 59; refine (HT.out _).mono ?_; rintro e w2 ⟨rfl, rfl⟩)
                  go_roundg (gk - 1)
                  case measure => omega
                  case rel => exact ⟨j + 1, sm2, by omega, rfl, by go_num, HS2.out, HA2.out, HJ.out.2.2⟩
            · have hjk : ¬ (j : Int) < (k : Int) := by omega
              have HU : Hid (u.take j = u) := List.take_of_length_le (by rw [← HK.out]; omega)
              have h1 := HJ.out.1
              have h2 := HJ.out.2.1
              rw [HU.out] at h1 h2
              have hz0 := (sumI_zero u (fun y hy => (h2 y hy).1)).2
              have hall : u.all (fun x => decide (0 ≤ x ∧ x ≤ topF f)) = true := List.all_eq_true.2 (fun y hy => decide_eq_true (h2 y hy))
              have hs := i_eql 3 .i64 sm 0
              rw [← h1] at hz0
              by_cases hs0 : sm = 0
              · rw [decide_eq_true hs0] at hs
                have HRR := hideIt (HBAD.out (by rw [HRO.out, hz0.1 hs0]; simp))
                clear h1 h2 hz0 hall hs0
                go_wp2_with fail
                go_ret
                exact ⟨by rw [HRR.out]; rfl, HBL.out.trans (HJ.out.2.2.mono HBL.out.size)⟩
              · rw [decide_eq_false hs0] at hs
                have HRR := hideIt (HOK.out (by
                  rw [HRO.out, hall]
                  have : u.any (fun x => decide (x ≠ 0)) = true := by
                    rw [← Bool.not_eq_false]
                    exact fun h => hs0 (hz0.2 h)
                  rw [this]
                  simp))
                clear h1 h2 hz0 hall hs0
                go_wp2_with fail
                go_roundg (g0 - 1)
                case measure => omega
                case rel => exact ⟨i + 1, by omega, by go_num, HRR.out, HJ.out.2.2⟩
        · rw [decide_eq_true (by omega)] at hln
          have HRR := hideIt (HBAD.out (by rw [HRO.out, decide_eq_false (by omega)]; rfl))
          clear he
          go_wp2_with fail
          go_quiet (fail)
          go_wp2_with fail
          go_ret
          exact ⟨by rw [HRR.out]; rfl, HBL.out.trans ((below_drewN HI.out.2 _).mono HBL.out.size)⟩
      · have hji : ¬ (i : Int) < (n : Int) := by omega
        have hE : xs.all (rowOkL f dn) = true := by
          have := HI.out.1
          rw [List.take_of_length_le (by rw [← HN.out]; omega)] at this
          exact this
        have hRR := HR.out
        rw [if_neg (by rw [hE]; decide)] at hRR
        by_cases q8 : 1 ≤ dm ∧ dm ≤ z
        · rw [if_neg (by rw [decide_eq_true q8]; decide)] at hRR
          have HRR := hideIt hRR
          have g1 : ¬ dm < 1 := by omega
          have g2 : ¬ dm > z := by omega
          clear hRR hE q8
          go_wp2_with fail
          go_ret
          exact ⟨by rw [HRR.out]; rfl, HBL.out.trans (HI.out.2.mono HBL.out.size)⟩
        · rw [if_pos (decide_eq_false q8)] at hRR
          have HRR := hideIt hRR
          clear hRR hE
          by_cases g1 : dm < 1
          · clear q8
            go_wp2_with fail
            go_ret
            exact ⟨by rw [HRR.out]; rfl, HBL.out.trans (HI.out.2.mono HBL.out.size)⟩
          · have g2 : dm > z := by omega
            clear q8
            go_wp2_with fail
            go_ret
            exact ⟨by rw [HRR.out]; rfl, HBL.out.trans (HI.out.2.mono HBL.out.size)⟩
end

end Go.Proofs.YtkfahoaiialndaaGreatDoor
