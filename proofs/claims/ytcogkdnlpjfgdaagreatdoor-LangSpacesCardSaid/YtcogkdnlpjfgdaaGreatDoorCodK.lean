/-
  Check, walked.
-/
import Derived.Test.YtcogkdnlpjfgdaaGreatDoorCodJ
namespace Go.Proofs.YtcogkdnlpjfgdaaGreatDoor
open Go.RowKit
set_option linter.unusedVariables false
set_option linter.unusedSimpArgs false

/-- The width as the machine adds it. -/
def widX (c : Cd) : Int := IntKind.i64.wrap (c.data + c.par.length)
/-- P7.1, with the machine's sum. -/
def checkX (c : Cd) : Int :=
  if wordB c.name = false then 4
  else if 12 < c.name.length then 2
  else if fieldB c.field = false then 1
  else if dataB c.data = false then 1
  else if c.par.length = 0 then 1
  else if 32 < widX c then 2
  else if c.par.all (rowOk c.field c.data) = false then 1
  else if decide (1 ≤ c.dom ∧ c.dom ≤ widX c) = false then 1
  else 0
theorem wid_sum (c : Cd) (h1 : 1 ≤ c.data) (h2 : c.data + c.par.length ≤ 9223372036854775807) : widX c = c.data + c.par.length := by
  unfold widX
  rw [IntWalk.i64_in _ (by omega)]
theorem checkX_zero (c : Cd) (hl : c.par.length ≤ maxLen) : checkX c = 0 ↔ checkC c = 0 := by
  have one : ¬ (1 : Int) = 0 := by decide
  have two : ¬ (2 : Int) = 0 := by decide
  have four : ¬ (4 : Int) = 0 := by decide
  unfold maxLen at hl
  unfold checkX checkC
  by_cases q1 : wordB c.name = false
  · rw [if_pos q1, if_pos q1]
  rw [if_neg q1, if_neg q1]
  by_cases q2 : 12 < c.name.length
  · rw [if_pos q2, if_pos q2]
  rw [if_neg q2, if_neg q2]
  by_cases q3 : c.field ≠ 8 ∧ c.field ≠ 16
  · rw [if_pos q3, if_pos (by unfold fieldB; exact decide_eq_false (by omega))]
  rw [if_neg q3, if_neg (by unfold fieldB; rw [decide_eq_true (by omega)]; decide)]
  by_cases q4 : c.data < 1 ∨ 31 < c.data ∨ c.par = []
  · rw [if_pos q4]
    by_cases q5 : dataB c.data = false
    · rw [if_pos q5]
    · rw [if_neg q5]
      have hd : 1 ≤ c.data ∧ c.data ≤ 31 := by
        rw [Bool.not_eq_false] at q5
        exact of_decide_eq_true q5
      have hp : c.par = [] := by
        rcases q4 with h | h | h
        · omega
        · omega
        · exact h
      rw [if_pos (by rw [hp]; rfl)]
  rw [if_neg q4, if_neg (by unfold dataB; rw [decide_eq_true (by omega)]; decide)]
  have hp : c.par.length ≠ 0 := fun h => q4 (.inr (.inr (List.length_eq_zero_iff.1 h)))
  rw [if_neg hp]
  by_cases hs : c.data + c.par.length ≤ 9223372036854775807
  · rw [wid_sum c (by omega) hs]
    by_cases q6 : 32 < c.data + c.par.length
    · rw [if_pos q6, if_pos q6]
    rw [if_neg q6, if_neg q6]
    by_cases q7 : c.par.all (rowOk c.field c.data) = false
    · rw [if_pos q7, if_pos q7]
    rw [if_neg q7, if_neg q7]
    by_cases q8 : c.dom < 1 ∨ c.data + c.par.length < c.dom
    · rw [if_pos q8, if_pos (decide_eq_false (by omega))]
    · rw [if_neg q8, if_neg (by rw [decide_eq_true (by omega)]; decide)]
  · have hw : widX c < 0 := by
      have hd : c.data ≤ 31 := by omega
      unfold widX
      obtain ⟨s, hs2⟩ : ∃ s, s = c.data + c.par.length := ⟨_, rfl⟩
      rw [← hs2] at hs ⊢
      have hs3 : s ≤ 9223372036854775838 := by omega
      show (if (true && decide (s % 18446744073709551616 ≥ 9223372036854775808)) = true then s % 18446744073709551616 - 18446744073709551616 else s % 18446744073709551616) < 0
      rw [Bool.true_and]
      split
      · omega
      · rename_i h
        have h' : ¬ (s % 18446744073709551616 ≥ 9223372036854775808) := fun q => h (decide_eq_true q)
        omega
    rw [if_neg (show ¬ 32 < widX c by omega), if_pos (show 32 < c.data + c.par.length by omega)]
    by_cases q7 : c.par.all (rowOk c.field c.data) = false
    · rw [if_pos q7]; exact ⟨fun h => absurd h one, fun h => absurd h two⟩
    · rw [if_neg q7, if_pos (decide_eq_false (by omega))]; exact ⟨fun h => absurd h one, fun h => absurd h two⟩


/-- A code as an argument: where its rows lie. -/
structure CIn (w : World) (x : Cd) (A : Option Addr) : Prop where
  pm : PM w w.heap.size A x.par
  len : x.par.length ≤ 9223372036854775807
  lens : ∀ l ∈ x.par, l.length ≤ 9223372036854775807
theorem CIn.keep {w w' : World} {x : Cd} {A : Option Addr} (h : CIn w x A) (hb : Below w.heap.size w w') : CIn w' x A := ⟨(h.pm.below hb).wide hb.size, h.len, h.lens⟩

set_option maxHeartbeats 2000000 in
set_option maxRecDepth 100000 in
theorem check_any (x : Cd) (A : Option Addr) (c : Nat) (w : World) (hx : CIn w x A) :
    Calls Tryz.prog 14 #[cdV x.name x.field x.data (.slice A x.par.length c) x.dom] w fun e w' => e = .returned (.int .i64 (checkX x)) ∧ Below w.heap.size w w' := by
  obtain ⟨W1, hW1⟩ : ∃ W1, W1 = w.alloc (.cells #[sv x.name, .int .i64 x.field, .int .i64 x.data, .slice A x.par.length c, .int .i64 x.dom] 24) := ⟨_, rfl⟩
  have hb : Blk W1 w.heap.size 24 [sv x.name, .int .i64 x.field, .int .i64 x.data, .slice A x.par.length c, .int .i64 x.dom] := by rw [hW1]; exact Blk.new w 24 [sv x.name, .int .i64 x.field, .int .i64 x.data, .slice A x.par.length c, .int .i64 x.dom]
  have HBL : Hid (Below w.heap.size w W1) := by rw [hW1]; exact below_new w _
  have HB := hideIt hb
  have c0 := hb.cell 0
  rw [hW1] at c0
  have HW1 := hideIt hW1
  have HIW := hideIt (isWord_any x.name W1)
  have HIF := hideIt (isField_any x.field)
  have HID := hideIt (isData_any x.data)
  have HWI := hideIt (fun W => width_any x.name x.field x.data A x.par.length c x.dom (widX x) (by rw [binOp_add]; rfl) W)
  have HDO := hideIt (fun W => isDomain_any x.name x.field x.data A x.par.length c x.dom (widX x) (by rw [binOp_add]; rfl) x.dom W)
  have HX := hideIt hx
  have hnot : ∀ (x : Bool) (w : World), (Op.unary .not (.bool x)).run Tryz.prog w = .ok (.bool (!x)) w := fun _ _ => rfl
  have hln := len_c x.name
  clear hb hW1 hx
  by_cases q1 : wordB x.name = false
  · rw [show checkX x = 4 from if_pos q1]
    rw [q1] at HIW
    clear q1
    go_enter Tryz.func14, Tryz.ntmps14
    go_wp2_with (go_at_call 33; rw [← HW1.out]; refine HIW.out.mono ?_; rintro e w1 ⟨rfl, hb1⟩; have HB1 := hideIt hb1; clear hb1)
    go_ret
    exact ⟨rfl, HBL.out.trans (HB1.out.mono HBL.out.size)⟩
  rw [show checkX x = _ from if_neg q1]
  rw [Bool.not_eq_false] at q1
  rw [q1] at HIW
  clear q1
  by_cases q2 : 12 < x.name.length
  · rw [if_pos q2]
    have hgt : (x.name.length : Int) > 12 := by omega
    clear q2
    go_enter Tryz.func14, Tryz.ntmps14
    go_wp2_with (go_at_call 33; rw [← HW1.out]; refine HIW.out.mono ?_; rintro e w1 ⟨rfl, hb1⟩; have hbk := HB.out.kept hb1 HB.out.lt; have c0 := hbk.cell 0; have HX1 := hideIt (HBL.out.trans (hb1.mono HBL.out.size)); clear hb1 hbk)
    go_ret
    exact ⟨rfl, HX1.out⟩
  rw [if_neg q2]
  have hgt : ¬ (x.name.length : Int) > 12 := by omega
  clear q2
  by_cases q3 : fieldB x.field = false
  · rw [if_pos q3]
    rw [q3] at HIF
    clear q3
    go_enter Tryz.func14, Tryz.ntmps14
    go_wp2_with (first
      | (go_at_call 34; refine (HIF.out _).mono ?_; rintro e w2 ⟨rfl, rfl⟩)
      | (go_at_call 33; rw [← HW1.out]; refine HIW.out.mono ?_; rintro e w1 ⟨rfl, hb1⟩; have hbk := HB.out.kept hb1 HB.out.lt; have c0 := hbk.cell 0; have c1 := hbk.cell 1; have HX1 := hideIt (HBL.out.trans (hb1.mono HBL.out.size)); clear hb1 hbk))
    go_ret
    exact ⟨rfl, HX1.out⟩
  rw [if_neg q3]
  rw [Bool.not_eq_false] at q3
  have hf : x.field = 8 ∨ x.field = 16 := of_decide_eq_true q3
  have HF := hideIt hf
  rw [q3] at HIF
  clear q3 hf
  by_cases q4 : dataB x.data = false
  · rw [if_pos q4]
    rw [q4] at HID
    clear q4
    go_enter Tryz.func14, Tryz.ntmps14
    go_wp2_with (first
      | (go_at_call 35; refine (HID.out _).mono ?_; rintro e w2 ⟨rfl, rfl⟩)
      | (go_at_call 34; refine (HIF.out _).mono ?_; rintro e w2 ⟨rfl, rfl⟩)
      | (go_at_call 33; rw [← HW1.out]; refine HIW.out.mono ?_; rintro e w1 ⟨rfl, hb1⟩; have hbk := HB.out.kept hb1 HB.out.lt; have c0 := hbk.cell 0; have c1 := hbk.cell 1; have c2 := hbk.cell 2; have HX1 := hideIt (HBL.out.trans (hb1.mono HBL.out.size)); clear hb1 hbk))
    go_ret
    exact ⟨rfl, HX1.out⟩
  rw [if_neg q4]
  rw [Bool.not_eq_false] at q4
  rw [q4] at HID
  clear q4
  obtain ⟨n, hn⟩ : ∃ n, n = x.par.length := ⟨_, rfl⟩
  have hn0 := i_eql 3 .i64 (n : Int) 0
  rw [← hn] at HB c0 HW1 HWI HDO ⊢
  by_cases q5 : n = 0
  · rw [if_pos q5]
    rw [decide_eq_true (by omega)] at hn0
    clear q5 hn
    go_enter Tryz.func14, Tryz.ntmps14
    go_wp2_with (first
      | (go_at_call 35; refine (HID.out _).mono ?_; rintro e w2 ⟨rfl, rfl⟩)
      | (go_at_call 34; refine (HIF.out _).mono ?_; rintro e w2 ⟨rfl, rfl⟩)
      | (go_at_call 33; rw [← HW1.out]; refine HIW.out.mono ?_; rintro e w1 ⟨rfl, hb1⟩; have hbk := HB.out.kept hb1 HB.out.lt; have c0 := hbk.cell 0; have c1 := hbk.cell 1; have c2 := hbk.cell 2; have c3 := hbk.cell 3; have HX1 := hideIt (HBL.out.trans (hb1.mono HBL.out.size)); clear hb1 hbk))
    go_ret
    exact ⟨rfl, HX1.out⟩
  rw [if_neg q5]
  rw [decide_eq_false (by omega)] at hn0
  have HN := hideIt hn
  clear q5 hn
  by_cases q6 : 32 < widX x
  · rw [if_pos q6]
    have hwg : widX x > 32 := q6
    generalize widX x = z at *
    clear q6
    go_enter Tryz.func14, Tryz.ntmps14
    go_wp2_with (first
      | (go_at_call 36; refine (HWI.out _).mono ?_; rintro e w3 ⟨rfl, hb2⟩; have HX2 := hideIt (HX1.out.trans (hb2.mono HX1.out.size)); clear hb2)
      | (go_at_call 35; refine (HID.out _).mono ?_; rintro e w2 ⟨rfl, rfl⟩)
      | (go_at_call 34; refine (HIF.out _).mono ?_; rintro e w2 ⟨rfl, rfl⟩)
      | (go_at_call 33; rw [← HW1.out]; refine HIW.out.mono ?_; rintro e w1 ⟨rfl, hb1⟩; have hbk := HB.out.kept hb1 HB.out.lt; have c0 := hbk.cell 0; have c1 := hbk.cell 1; have c2 := hbk.cell 2; have c3 := hbk.cell 3; have c4 := hbk.cell 4; have HX1 := hideIt (HBL.out.trans (hb1.mono HBL.out.size)); clear hb1 hbk))
    go_ret
    exact ⟨rfl, HX2.out⟩
  rw [if_neg q6]
  have hwg : ¬ widX x > 32 := q6
  generalize widX x = z at *
  clear q6
  obtain ⟨R, hR⟩ : ∃ R : Int, R = if (x.par.all (rowOk x.field x.data)) = false then 1 else if decide (1 ≤ x.dom ∧ x.dom ≤ z) = false then 1 else 0 := ⟨_, rfl⟩
  rw [← hR]
  have HR := hideIt hR
  have hnl : n ≤ 9223372036854775807 := by rw [HN.out]; exact HX.out.len
  clear hR
  go_enter Tryz.func14, Tryz.ntmps14
  go_wp2_with (first
      | (go_at_call 36; refine (HWI.out _).mono ?_; rintro e w3 ⟨rfl, hb2⟩; have HX2 := hideIt (HX1.out.trans (hb2.mono HX1.out.size)); have hbk := HBK.out.kept hb2 HBK.out.lt; have e3 := hbk.cell 3; have HBK2 := hideIt hbk; clear hb2 hbk)
      | (go_at_call 35; refine (HID.out _).mono ?_; rintro e w2 ⟨rfl, rfl⟩)
      | (go_at_call 34; refine (HIF.out _).mono ?_; rintro e w2 ⟨rfl, rfl⟩)
      | (go_at_call 33; rw [← HW1.out]; refine HIW.out.mono ?_; rintro e w1 ⟨rfl, hb1⟩; have hbk := HB.out.kept hb1 HB.out.lt; have c0 := hbk.cell 0; have c1 := hbk.cell 1; have c2 := hbk.cell 2; have c3 := hbk.cell 3; have c4 := hbk.cell 4; have HBK := hideIt hbk; have HX1 := hideIt (HBL.out.trans (hb1.mono HBL.out.size)); clear hb1 hbk))
  go_loopg [35] n (fun gk s35 wr => ∃ j : Nat, j + gk = n ∧ s35 = .int .i64 (j : Int) ∧ Aside ((x.par.take j).all (rowOk x.field x.data) = true ∧ Below w.heap.size w wr ∧ Blk wr w.heap.size 24 [sv x.name, .int .i64 x.field, .int .i64 x.data, .slice A n c, .int .i64 x.dom]))
  case atStart => exact ⟨0, by omega, rfl, rfl, HX2.out, HBK2.out⟩
  case round =>
    obtain ⟨j, hj, rfl, HI⟩ := hrel
    have hbk := HI.out.2.2
    have e0 := hbk.cell 0
    have e1 := hbk.cell 1
    have e2 := hbk.cell 2
    have e3 := hbk.cell 3
    have e4 := hbk.cell 4
    clear hbk
    by_cases hlt : j < n
    · have hjl : j < x.par.length := by rw [← HN.out]; exact hlt
      obtain ⟨b, o, A', c', hA, hb, hcell, hsl⟩ := HX.out.pm.row hjl
      subst hA
      have hq : wr.cell? ⟨b, o + j, none⟩ = some (.slice A' (x.par[j]).length c') := (HI.out.2.1.cell (p := ⟨b, _, none⟩) hb).trans hcell
      have HT := hideIt (take_snoc x.par j hjl)
      have hll := HX.out.lens _ (List.getElem_mem hjl)
      have HM := hideIt (List.getElem_mem hjl)
      have hinc : binOp .add 3 (.int .i64 (j : Int)) (.int .i64 1) = pure (.int .i64 ((j + 1 : Nat) : Int)) := by
        rw [binOp_add]
        simp only [Op.intArith]
        rw [IntWalk.i64_in _ (by omega)]
        rfl
      have hji : (j : Int) < (n : Int) := by omega
      have HRW := hideIt (isRow_any x (.slice (some ⟨b, o, none⟩) n c) HF.out (x.par[j]) hll A' c' w.heap.size wr (hsl.below HI.out.2.1) HI.out.2.1.size)
      generalize x.par[j] = l at *
      clear hjl hb hcell hsl hll
      cases hk : rowOk x.field x.data l with
      | true =>
        rw [hk] at HRW
        have HK := hideIt hk
        clear hk
        go_wp2_with (go_at_call 37; refine HRW.out.mono ?_; rintro e w4 ⟨rfl, hb4⟩; have HX4 := hideIt (HI.out.2.1.trans (hb4.mono HI.out.2.1.size)); have HBK4 := hideIt (HI.out.2.2.kept hb4 HI.out.2.2.lt); clear hb4)
        go_roundg (gk - 1)
        case measure => omega
        case rel =>
          refine ⟨j + 1, by omega, by go_num, ?_, HX4.out, HBK4.out⟩
          rw [HT.out, List.all_append, HI.out.1]
          simp [HK.out]
      | false =>
        rw [hk] at HRW
        have HK := hideIt hk
        clear hk
        go_wp2_with (go_at_call 37; refine HRW.out.mono ?_; rintro e w4 ⟨rfl, hb4⟩; have HX4 := hideIt (HI.out.2.1.trans (hb4.mono HI.out.2.1.size)); clear hb4)
        go_ret
        have HRR : R = 1 := HR.out.trans (if_pos (List.all_eq_false.2 ⟨l, HM.out, by rw [HK.out]; decide⟩))
        exact ⟨congrArg (fun v => Ending.returned (.int .i64 v)) HRR.symm, HX4.out⟩
    · have hji : ¬ (j : Int) < (n : Int) := by omega
      have HE : Hid (x.par.all (rowOk x.field x.data) = true) := by
        have := HI.out.1
        rw [List.take_of_length_le (by rw [← HN.out]; omega)] at this
        exact this
      have HDD := hideIt (HDO.out wr)
      by_cases q8 : decide (1 ≤ x.dom ∧ x.dom ≤ z) = false
      · rw [q8] at HDD
        have HRR : Hid (R = 1) := by
          show R = 1
          rw [HR.out, if_neg (by rw [HE.out]; decide), if_pos q8]
        clear q8
        go_wp2_with (go_at_call 38; refine HDD.out.mono ?_; rintro e w4 ⟨rfl, hb4⟩; have HX4 := hideIt (HI.out.2.1.trans (hb4.mono HI.out.2.1.size)); clear hb4)
        go_ret
        exact ⟨congrArg (fun v => Ending.returned (.int .i64 v)) HRR.out.symm, HX4.out⟩
      · have HRR : Hid (R = 0) := by
          show R = 0
          rw [HR.out, if_neg (by rw [HE.out]; decide), if_neg q8]
        rw [Bool.not_eq_false] at q8
        rw [q8] at HDD
        clear q8
        go_wp2_with (go_at_call 38; refine HDD.out.mono ?_; rintro e w4 ⟨rfl, hb4⟩; have HX4 := hideIt (HI.out.2.1.trans (hb4.mono HI.out.2.1.size)); clear hb4)
        go_ret
        exact ⟨congrArg (fun v => Ending.returned (.int .i64 v)) HRR.out.symm, HX4.out⟩

end Go.Proofs.YtcogkdnlpjfgdaaGreatDoor
