/-
  The reference, walked: letter, digit, top, word.
  The reference, walked: Same, SameAll.
-/
import Derived.Test.YtcogkdnlpjfgdaaGreatDoorLpA
import Derived.StillTailTactics
namespace Go.Proofs.YtcogkdnlpjfgdaaGreatDoor
open Go.RowKit
set_option linter.unusedVariables false
set_option linter.unusedSimpArgs false

theorem rletter_any (c : UInt8) (w : World) : Calls Tryz.prog 62 #[.int .u8 (c.toNat : Int)] w fun e w' => e = .returned (.bool (letB c)) ∧ w = w' := by
  have hb : letB c = decide (97 ≤ (c.toNat : Int) ∧ (c.toNat : Int) ≤ 122) := by
    unfold letB
    rw [Bool.eq_iff_iff, decide_eq_true_iff, decide_eq_true_iff]
    omega
  rw [hb]
  generalize (c.toNat : Int) = n at *
  clear hb
  by_cases h1 : n ≥ 97
  · by_cases h2 : n ≤ 122
    · rw [decide_eq_true ⟨h1, h2⟩]
      go_enter Tryz.func62, Tryz.ntmps62
      go_wp2_with fail
      go_ret
      exact ⟨rfl, rfl⟩
    · rw [decide_eq_false (fun h => h2 h.2)]
      go_enter Tryz.func62, Tryz.ntmps62
      go_wp2_with fail
      go_ret
      exact ⟨rfl, rfl⟩
  · rw [decide_eq_false (fun h => h1 h.1)]
    go_enter Tryz.func62, Tryz.ntmps62
    go_wp2_with fail
    go_ret
    exact ⟨rfl, rfl⟩
theorem rdigit_any (c : UInt8) (w : World) : Calls Tryz.prog 63 #[.int .u8 (c.toNat : Int)] w fun e w' => e = .returned (.bool (digB c)) ∧ w = w' := by
  have hb : digB c = decide (48 ≤ (c.toNat : Int) ∧ (c.toNat : Int) ≤ 57) := by
    unfold digB
    rw [Bool.eq_iff_iff, decide_eq_true_iff, decide_eq_true_iff]
    omega
  rw [hb]
  generalize (c.toNat : Int) = n at *
  clear hb
  by_cases h1 : n ≥ 48
  · by_cases h2 : n ≤ 57
    · rw [decide_eq_true ⟨h1, h2⟩]
      go_enter Tryz.func63, Tryz.ntmps63
      go_wp2_with fail
      go_ret
      exact ⟨rfl, rfl⟩
    · rw [decide_eq_false (fun h => h2 h.2)]
      go_enter Tryz.func63, Tryz.ntmps63
      go_wp2_with fail
      go_ret
      exact ⟨rfl, rfl⟩
  · rw [decide_eq_false (fun h => h1 h.1)]
    go_enter Tryz.func63, Tryz.ntmps63
    go_wp2_with fail
    go_ret
    exact ⟨rfl, rfl⟩
theorem rtop_any (f : Int) (w : World) : Calls Tryz.prog 40 #[.int .i64 f] w fun e w' => e = .returned (.int .i64 (topF f)) ∧ w = w' := by
  unfold topF
  have h8 := i_eql 3 .i64 f 8
  by_cases h : f = 8
  · rw [decide_eq_true h] at h8
    rw [if_pos h]
    clear h
    go_enter Tryz.func40, Tryz.ntmps40
    go_wp2_with fail
    go_ret
    exact ⟨rfl, rfl⟩
  · rw [decide_eq_false h] at h8
    rw [if_neg h]
    clear h
    go_enter Tryz.func40, Tryz.ntmps40
    go_wp2_with fail
    go_ret
    exact ⟨rfl, rfl⟩

theorem not_b (x : Bool) (w : World) : (Op.unary .not (.bool x)).run Tryz.prog w = .ok (.bool (!x)) w := rfl
set_option maxHeartbeats 1000000 in
theorem rword_any (l : Bs) (hl : l.length ≤ 9223372036854775807) (w : World) : Calls Tryz.prog 39 #[sv l] w fun e w' => e = .returned (.bool (wordB l)) ∧ w = w' := by
  have hnot := not_b
  cases l with
  | nil =>
    have hne : binOp .eql 9 (sv []) (.string ⟨#[]⟩) = pure (.bool true) := s_eql _ [] []
    go_enter Tryz.func39, Tryz.ntmps39
    go_wp2_with fail
    go_ret
    exact ⟨rfl, rfl⟩
  | cons c r =>
    have hne : binOp .eql 9 (sv (c :: r)) (.string ⟨#[]⟩) = pure (.bool false) := s_eql _ (c :: r) []
    have hix := s_at0 Tryz.underlying9 c r
    have HL := hideIt (rletter_any c)
    obtain ⟨bb, hb⟩ : ∃ bb, bb = wordB (c :: r) := ⟨_, rfl⟩
    rw [← hb]
    have HB := hideIt hb
    clear hb
    cases hc : letB c with
    | false =>
      rw [hc] at HL
      have HB : Hid (bb = false) := by
        have := HB.out
        rw [wordB, hc] at this
        exact this
      clear hc
      go_enter Tryz.func39, Tryz.ntmps39
      go_wp2_with (go_at_call 62; refine (HL.out _).mono ?_; rintro e w' ⟨rfl, rfl⟩)
      go_ret
      exact ⟨by rw [HB.out]; rfl, rfl⟩
    | true =>
      rw [hc] at HL
      have HB : Hid (bb = (c :: r).all alnB) := by
        have := HB.out
        rw [wordB, hc] at this
        exact this
      clear hc
      have hln := len_c (c :: r)
      have HX := hideIt (fun i hi => s_at Tryz.underlying9 (c :: r) i hi)
      generalize hl2 : c :: r = l at *
      obtain ⟨n, hn⟩ : ∃ n, n = l.length := ⟨_, rfl⟩
      rw [← hn] at hln hl
      have HN := hideIt hn
      clear hn hl2
      go_enter Tryz.func39, Tryz.ntmps39
      go_wp2_with (go_at_call 62; refine (HL.out _).mono ?_; rintro e w' ⟨rfl, rfl⟩)
      go_loopg [3] n (fun gk s3 wr => ∃ j : Nat, j + gk = n ∧ s3 = .int .i64 (j : Int) ∧ wr = w ∧ Aside ((l.take j).all alnB = true))
      case atStart => exact ⟨0, by omega, rfl, rfl, rfl⟩
      case round =>
        obtain ⟨j, hj, rfl, rfl, HI⟩ := hrel
        by_cases hlt : j < n
        · have hjl : j < l.length := by rw [← HN.out]; exact hlt
          have hxj := HX.out j hjl
          have HT := hideIt (take_snoc l j hjl)
          have HM := hideIt (List.getElem_mem hjl)
          have hinc := inc_w 3 j (by omega)
          have hji : (j : Int) < (n : Int) := by omega
          generalize l[j] = x at *
          have HLX := hideIt (rletter_any x)
          have HDX := hideIt (rdigit_any x)
          clear hjl
          cases h1 : letB x with
          | true =>
            rw [h1] at HLX
            have HAL : Hid (alnB x = true) := by show alnB x = true; unfold alnB; rw [h1]; rfl
            clear h1
            go_wp2_with (go_at_call 62; refine (HLX.out _).mono ?_; rintro e w' ⟨rfl, rfl⟩)
            go_roundg (gk - 1)
            case measure => omega
            case rel =>
              refine ⟨j + 1, by omega, by go_num, rfl, ?_⟩
              show (l.take (j + 1)).all alnB = true
              rw [HT.out, List.all_append, HI.out]
              simp [HAL.out]
          | false =>
            rw [h1] at HLX
            cases h2 : digB x with
            | true =>
              rw [h2] at HDX
              have HAL : Hid (alnB x = true) := by show alnB x = true; unfold alnB; rw [h1, h2]; rfl
              clear h1 h2
              go_wp2_with (first
                | (go_at_call 62; refine (HLX.out _).mono ?_; rintro e w' ⟨rfl, rfl⟩)
                | (go_at_call 63; refine (HDX.out _).mono ?_; rintro e w' ⟨rfl, rfl⟩))
              go_roundg (gk - 1)
              case measure => omega
              case rel =>
                refine ⟨j + 1, by omega, by go_num, rfl, ?_⟩
                show (l.take (j + 1)).all alnB = true
                rw [HT.out, List.all_append, HI.out]
                simp [HAL.out]
            | false =>
              rw [h2] at HDX
              have HAL : Hid (alnB x = false) := by show alnB x = false; unfold alnB; rw [h1, h2]; rfl
              clear h1 h2
              go_wp2_with (first
                | (go_at_call 62; refine (HLX.out _).mono ?_; rintro e w' ⟨rfl, rfl⟩)
                | (go_at_call 63; refine (HDX.out _).mono ?_; rintro e w' ⟨rfl, rfl⟩))
              go_ret
              refine ⟨?_, rfl⟩
              rw [HB.out, List.all_eq_false.2 ⟨x, HM.out, by rw [HAL.out]; decide⟩]; rfl
        · have hji : ¬ (j : Int) < (n : Int) := by omega
          have HE : Hid (l.all alnB = true) := by
            have := HI.out
            rw [List.take_of_length_le (by rw [← HN.out]; omega)] at this
            exact this
          go_wp2_with fail
          go_ret
          exact ⟨by rw [HB.out, HE.out]; rfl, rfl⟩

theorem getElem_ne {α : Type} {xs ys : List α} {j : Nat} {x y : α} (h1 : xs[j]? = some x) (h2 : ys[j]? = some y) (h : x ≠ y) : xs ≠ ys := fun e => by
  rw [e, h2] at h1
  injection h1 with h1
  exact h h1.symm
set_option maxHeartbeats 4000000 in
set_option maxRecDepth 100000 in
theorem rsame_any (x y : Cd) (A A' : Option Addr) (c c' : Nat) (w : World) (hx : CIn w x A) (hy : CIn w y A') :
    Calls Tryz.prog 17 #[cdV x.name x.field x.data (.slice A x.par.length c) x.dom, cdV y.name y.field y.data (.slice A' y.par.length c') y.dom] w fun e w' => e = .returned (.bool (sameB x y)) ∧ Below w.heap.size w w' := by
  obtain ⟨W1, hW1⟩ : ∃ W1, W1 = (w.alloc (.cells #[sv x.name, .int .i64 x.field, .int .i64 x.data, .slice A x.par.length c, .int .i64 x.dom] 24)).alloc (.cells #[sv y.name, .int .i64 y.field, .int .i64 y.data, .slice A' y.par.length c', .int .i64 y.dom] 24) := ⟨_, rfl⟩
  have HBL : Hid (Below w.heap.size w W1) := by rw [hW1]; exact ((Below.refl _ _).alloc (Nat.le_refl _) _).alloc (by simp) _
  have hb1 : Blk W1 w.heap.size 24 [sv x.name, .int .i64 x.field, .int .i64 x.data, .slice A x.par.length c, .int .i64 x.dom] := by
    rw [hW1]; exact (Blk.new w 24 [sv x.name, .int .i64 x.field, .int .i64 x.data, .slice A x.par.length c, .int .i64 x.dom]).alloc _
  have hb2 : Blk W1 (w.heap.size + 1) 24 [sv y.name, .int .i64 y.field, .int .i64 y.data, .slice A' y.par.length c', .int .i64 y.dom] := by
    have := Blk.new (w.alloc (.cells #[sv x.name, .int .i64 x.field, .int .i64 x.data, .slice A x.par.length c, .int .i64 x.dom] 24)) 24 [sv y.name, .int .i64 y.field, .int .i64 y.data, .slice A' y.par.length c', .int .i64 y.dom]
    rw [show (w.alloc (.cells #[sv x.name, .int .i64 x.field, .int .i64 x.data, .slice A x.par.length c, .int .i64 x.dom] 24)).heap.size = w.heap.size + 1 by simp] at this
    rw [hW1]; exact this
  have HX := hideIt (hx.pm.below HBL.out)
  have HY := hideIt (hy.pm.below HBL.out)
  have HLX := hideIt hx.lens
  have HLY := hideIt hy.lens
  have hlx := hx.len
  have hly := hy.len
  have r0 := hb1.cell 0
  have r1 := hb1.cell 1
  have r2 := hb1.cell 2
  have r3 := hb1.cell 3
  have r4 := hb1.cell 4
  have s0 := hb2.cell 0
  have s1 := hb2.cell 1
  have s2 := hb2.cell 2
  have s3 := hb2.cell 3
  have s4 := hb2.cell 4
  rw [hW1] at r0 r1 r2 r3 r4 s0 s1 s2 s3 s4
  have HW1 := hideIt hW1
  have HB1 := hideIt hb1
  have HB2 := hideIt hb2
  have t0 := s_neq 9 x.name y.name
  have t1 := i_neq 3 .i64 x.field y.field
  have t2 := i_neq 3 .i64 x.data y.data
  have t4 := i_neq 3 .i64 x.dom y.dom
  have hr : sameB x y = (decide (x.name = y.name) && decide (x.field = y.field) && decide (x.data = y.data) && decide (x.dom = y.dom) && decide (x.par = y.par)) := rfl
  rw [hr]
  rw [decide_not] at t0 t1 t2 t4
  generalize decide (x.name = y.name) = b0 at *
  generalize decide (x.field = y.field) = b1 at *
  generalize decide (x.data = y.data) = b2 at *
  generalize decide (x.dom = y.dom) = b4 at *
  generalize x.par = xs at *
  generalize y.par = ys at *
  generalize x.name = xn at *
  generalize y.name = yn at *
  generalize x.field = xf at *
  generalize y.field = yf at *
  generalize x.data = xd at *
  generalize y.data = yd at *
  generalize x.dom = xm at *
  generalize y.dom = ym at *
  obtain ⟨n, hn⟩ : ∃ n, n = xs.length := ⟨_, rfl⟩
  obtain ⟨m, hm⟩ : ∃ m, m = ys.length := ⟨_, rfl⟩
  rw [← hn] at hlx r3 HB1 HW1
  rw [← hm] at hly s3 HB2 HW1
  rw [← hn, ← hm]
  have HN := hideIt hn
  have HM := hideIt hm
  have hlen := i_neq 3 .i64 (n : Int) (m : Int)
  clear hb1 hb2 hW1 hx hy hr hn hm
  cases b0
  · go_enter Tryz.func17, Tryz.ntmps17
    go_wp2_with fail
    go_ret
    exact ⟨rfl, by have := HBL.out; rw [HW1.out] at this; exact this⟩
  cases b1
  · go_enter Tryz.func17, Tryz.ntmps17
    go_wp2_with fail
    go_ret
    exact ⟨rfl, by have := HBL.out; rw [HW1.out] at this; exact this⟩
  cases b2
  · go_enter Tryz.func17, Tryz.ntmps17
    go_wp2_with fail
    go_ret
    exact ⟨rfl, by have := HBL.out; rw [HW1.out] at this; exact this⟩
  cases b4
  · go_enter Tryz.func17, Tryz.ntmps17
    go_wp2_with fail
    go_ret
    exact ⟨rfl, by have := HBL.out; rw [HW1.out] at this; exact this⟩
  by_cases hl : n = m
  · subst hl
    rw [decide_eq_false (fun h => h rfl)] at hlen
    go_enter Tryz.func17, Tryz.ntmps17
    go_wp2_with fail
    rw [← HW1.out]
    clear r0 r1 r2 r3 r4 s0 s1 s2 s3 s4 t0 t1 t2 t4 hlen
    go_loopg [5] n (fun gk s5 wr => ∃ i : Nat, i + gk = n ∧ s5 = .int .i64 (i : Int) ∧ Aside (xs.take i = ys.take i ∧ Below W1.heap.size W1 wr))
    case atStart => exact ⟨0, by omega, rfl, rfl, Below.refl _ _⟩
    case round =>
      obtain ⟨i, hi, rfl, HI⟩ := hrel
      have hc1 := (HB1.out.kept HI.out.2 HB1.out.lt).cell 3
      have hc2 := (HB2.out.kept HI.out.2 HB2.out.lt).cell 3
      by_cases hlt : i < n
      · have hil : i < xs.length := by rw [← HN.out]; exact hlt
        have him : i < ys.length := by rw [← HM.out]; exact hlt
        obtain ⟨b, o, A1, c1, hA, hb, hc, hs1⟩ := HX.out.row hil
        obtain ⟨b', o', A2, c2, hA', hb', hc', hs2⟩ := HY.out.row him
        subst hA hA'
        have HC1 := hideIt (fun (W : World) (hW : Below W1.heap.size W1 W) => show W.cell? ⟨b, o + i, none⟩ = some (.slice A1 (xs[i]).length c1) from (hW.cell (p := ⟨b, _, none⟩) (Nat.lt_of_lt_of_le hb HBL.out.size)).trans hc)
        have HC2 := hideIt (fun (W : World) (hW : Below W1.heap.size W1 W) => show W.cell? ⟨b', o' + i, none⟩ = some (.slice A2 (ys[i]).length c2) from (hW.cell (p := ⟨b', _, none⟩) (Nat.lt_of_lt_of_le hb' HBL.out.size)).trans hc')
        have q1 := HC1.out wr HI.out.2
        have q2 := HC2.out wr HI.out.2
        have HT1 := hideIt (take_snoc xs i hil)
        have HT2 := hideIt (take_snoc ys i him)
        have HG1 := hideIt (List.getElem?_eq_getElem hil)
        have HG2 := hideIt (List.getElem?_eq_getElem him)
        have hl1 := HLX.out _ (List.getElem_mem hil)
        have hl2 := HLY.out _ (List.getElem_mem him)
        have hinc := inc_w 3 i (by omega)
        have hji : (i : Int) < (n : Int) := by omega
        have HS1 := hideIt hs1
        have HS2 := hideIt hs2
        generalize xs[i] = u at *
        generalize ys[i] = v at *
        obtain ⟨k, hk⟩ : ∃ k, k = u.length := ⟨_, rfl⟩
        obtain ⟨k', hk'⟩ : ∃ k, k = v.length := ⟨_, rfl⟩
        rw [← hk] at hl1 HC1 q1
        rw [← hk'] at hl2 HC2 q2
        have HK := hideIt hk
        have HK' := hideIt hk'
        have hln := i_neq 3 .i64 (k : Int) (k' : Int)
        clear hb hb' hc hc' hil him hs1 hs2 hk hk'
        by_cases he : k = k'
        · subst he
          rw [decide_eq_false (fun h => h rfl)] at hln
          go_wp2_with fail
          go_quiet (fail)
          go_wp2_with fail
          clear q1 q2 hc1 hc2
          obtain ⟨g0, rfl⟩ : ∃ x, x = gk := ⟨gk, rfl⟩
          generalize hV : wr.drewN _ = V
          have HV : Hid (Below W1.heap.size W1 V) := by rw [← hV]; exact below_drewN HI.out.2 _
          clear hV
          go_loopg [6] k (fun gk s6 wr => ∃ j : Nat, j + gk = k ∧ s6 = .int .i64 (j : Int) ∧ Aside (u.take j = v.take j ∧ Below W1.heap.size W1 wr))
          case atStart => exact ⟨0, by omega, rfl, rfl, HV.out⟩
          case round =>
            obtain ⟨j, hj, rfl, HJ⟩ := hrel
            have hc1 := (HB1.out.kept HJ.out.2 HB1.out.lt).cell 3
            have hc2 := (HB2.out.kept HJ.out.2 HB2.out.lt).cell 3
            have q1 := HC1.out _ HJ.out.2
            have q2 := HC2.out _ HJ.out.2
            by_cases hjt : j < k
            · have hju : j < u.length := by rw [← HK.out]; exact hjt
              have hjv : j < v.length := by rw [← HK'.out]; exact hjt
              obtain ⟨d, p, hA, hd, hc⟩ := HS1.out.num hju
              obtain ⟨d', p', hA', hd', hc'⟩ := HS2.out.num hjv
              subst hA hA'
              have q3 := (HJ.out.2.cell (p := ⟨d, p + j, none⟩) (Nat.lt_of_lt_of_le hd HBL.out.size)).trans hc
              have q4 := (HJ.out.2.cell (p := ⟨d', p' + j, none⟩) (Nat.lt_of_lt_of_le hd' HBL.out.size)).trans hc'
              have HTu := hideIt (take_snoc u j hju)
              have HTv := hideIt (take_snoc v j hjv)
              have HGu := hideIt (List.getElem?_eq_getElem hju)
              have HGv := hideIt (List.getElem?_eq_getElem hjv)
              have hinc2 := inc_w 3 j (by omega)
              have hjk : (j : Int) < (k : Int) := by omega
              have hnn := i_neq 3 .i64 u[j] v[j]
              generalize u[j] = e1 at *
              generalize v[j] = e2 at *
              clear hc hc' hd hd' hju hjv
              by_cases heq : e1 = e2
              · rw [decide_eq_false (fun h => h heq)] at hnn
                have HEQ := hideIt heq
                clear heq
                go_wp2_with fail
                go_quiet (fail)
                go_wp2_with fail
                go_roundg (gk - 1)
                case measure => omega
                case rel => exact ⟨j + 1, by omega, by go_num, by rw [HTu.out, HTv.out, HJ.out.1, HEQ.out], below_drewN HJ.out.2 _⟩
              · rw [decide_eq_true heq] at hnn
                have HEQ := hideIt heq
                clear heq
                go_wp2_with fail
                go_quiet (fail)
                go_wp2_with fail
                go_ret
                refine ⟨ret_b ?_, HBL.out.trans ((below_drewN HJ.out.2 _).mono HBL.out.size)⟩
                rw [decide_eq_false (getElem_ne HG1.out HG2.out (getElem_ne HGu.out HGv.out HEQ.out))]
                rfl
            · have hjk : ¬ (j : Int) < (k : Int) := by omega
              have HE : Hid (u = v) := by
                have := HJ.out.1
                rw [List.take_of_length_le (by rw [← HK.out]; omega), List.take_of_length_le (by rw [← HK'.out]; omega)] at this
                exact this
              go_wp2_with fail
              go_roundg (g0 - 1)
              case measure => omega
              case rel => exact ⟨i + 1, by omega, by go_num, by rw [HT1.out, HT2.out, HI.out.1, HE.out], HJ.out.2⟩
        · rw [decide_eq_true (by omega)] at hln
          have HEQ := hideIt he
          clear he
          go_wp2_with fail
          go_quiet (fail)
          go_wp2_with fail
          go_ret
          refine ⟨ret_b ?_, HBL.out.trans ((below_drewN HI.out.2 _).mono HBL.out.size)⟩
          rw [decide_eq_false (getElem_ne HG1.out HG2.out (fun e => HEQ.out (by rw [HK.out, HK'.out, e])))]
          rfl
      · have hji : ¬ (i : Int) < (n : Int) := by omega
        have HE : Hid (xs = ys) := by
          have := HI.out.1
          rw [List.take_of_length_le (by rw [← HN.out]; omega), List.take_of_length_le (by rw [← HM.out]; omega)] at this
          exact this
        go_wp2_with fail
        go_ret
        refine ⟨ret_b ?_, HBL.out.trans (HI.out.2.mono HBL.out.size)⟩
        rw [decide_eq_true HE.out]
  · rw [decide_eq_true (by omega)] at hlen
    have Hl := hideIt hl
    clear hl
    go_enter Tryz.func17, Tryz.ntmps17
    go_wp2_with fail
    go_ret
    refine ⟨ret_b ?_, by have := HBL.out; rw [HW1.out] at this; exact this⟩
    rw [decide_eq_false (fun e => Hl.out (by rw [HN.out, HM.out, e]))]
    rfl

/-- Codes that can be compared. -/
structure CsIn (w : World) (xs : List Cd) (A : Option Addr) : Prop where
  cm : CdsM w w.heap.size A xs
  len : xs.length ≤ 9223372036854775807
  par : ∀ x ∈ xs, x.par.length ≤ 9223372036854775807
  row : ∀ x ∈ xs, ∀ l ∈ x.par, l.length ≤ 9223372036854775807
def samesB : List Cd → List Cd → Bool
  | [], [] => true
  | x :: xs, y :: ys => sameB x y && samesB xs ys
  | _, _ => false
theorem samesB_iff : ∀ (a b : List Cd), samesB a b = true ↔ a = b
  | [], [] => by simp [samesB]
  | x :: xs, y :: ys => by rw [samesB, Bool.and_eq_true, sameB_iff, samesB_iff xs ys]; simp
  | [], y :: ys => by simp [samesB]
  | x :: xs, [] => by simp [samesB]
theorem bool_of {b : Bool} {P : Prop} (h : b = true ↔ P) (hp : ¬ P) : b = false := by
  rw [← Bool.not_eq_true]
  exact fun q => hp (h.1 q)
set_option maxHeartbeats 2000000 in
set_option maxRecDepth 100000 in
theorem rsameAll_any (xs ys : List Cd) (A A' : Option Addr) (c c' : Nat) (w : World) (hx : CsIn w xs A) (hy : CsIn w ys A') :
    Calls Tryz.prog 22 #[.slice A xs.length c, .slice A' ys.length c'] w fun e w' => e = .returned (.bool (samesB xs ys)) ∧ Below w.heap.size w w' := by
  have HX := hideIt hx.cm
  have HY := hideIt hy.cm
  have HPX := hideIt (fun x hx' => hx.par x hx')
  have HPY := hideIt (fun x hx' => hy.par x hx')
  have HRX := hideIt (fun x hx' => hx.row x hx')
  have HRY := hideIt (fun x hx' => hy.row x hx')
  have hlx := hx.len
  have hly := hy.len
  have HIFF := hideIt (samesB_iff xs ys)
  obtain ⟨n, hn⟩ : ∃ n, n = xs.length := ⟨_, rfl⟩
  obtain ⟨m, hm⟩ : ∃ m, m = ys.length := ⟨_, rfl⟩
  rw [← hn] at hlx
  rw [← hm] at hly
  rw [← hn, ← hm]
  have HN := hideIt hn
  have HM := hideIt hm
  have hlen := i_neq 3 .i64 (n : Int) (m : Int)
  have hnot := not_b
  clear hx hy hn hm
  generalize samesB xs ys = R at *
  by_cases hl : n = m
  · subst hl
    rw [decide_eq_false (fun h => h rfl)] at hlen
    go_enter Tryz.func22, Tryz.ntmps22
    go_wp2_with fail
    go_loopg [5] n (fun gk s5 wr => ∃ i : Nat, i + gk = n ∧ s5 = .int .i64 (i : Int) ∧ Aside (xs.take i = ys.take i ∧ Below w.heap.size w wr))
    case atStart => exact ⟨0, by omega, rfl, rfl, Below.refl _ _⟩
    case round =>
      obtain ⟨i, hi, rfl, HI⟩ := hrel
      by_cases hlt : i < n
      · have hil : i < xs.length := by rw [← HN.out]; exact hlt
        have him : i < ys.length := by rw [← HM.out]; exact hlt
        obtain ⟨b, o, A1, c1, hA, hb, hcell, hpm⟩ := HX.out.code hil
        obtain ⟨b', o', A2, c2, hA', hb', hcell', hpm'⟩ := HY.out.code him
        subst hA hA'
        have HC := hideIt (fun (W : World) (hW : Below w.heap.size w W) k u h => (hW.cell (p := ⟨b, o + (i * 5 + k), none⟩) hb).trans (hcell k u h))
        have HC' := hideIt (fun (W : World) (hW : Below w.heap.size w W) k u h => (hW.cell (p := ⟨b', o' + (i * 5 + k), none⟩) hb').trans (hcell' k u h))
        have HT1 := hideIt (take_snoc xs i hil)
        have HT2 := hideIt (take_snoc ys i him)
        have HG1 := hideIt (List.getElem?_eq_getElem hil)
        have HG2 := hideIt (List.getElem?_eq_getElem him)
        have hinc := inc_w 3 i (by omega)
        have hji : (i : Int) < (n : Int) := by omega
        have HCX := hideIt (fun W (hW : Below w.heap.size w W) => show CIn W xs[i] A1 from ⟨(hpm.below hW).wide hW.size, HPX.out _ (List.getElem_mem hil), HRX.out _ (List.getElem_mem hil)⟩)
        have HCY := hideIt (fun W (hW : Below w.heap.size w W) => show CIn W ys[i] A2 from ⟨(hpm'.below hW).wide hW.size, HPY.out _ (List.getElem_mem him), HRY.out _ (List.getElem_mem him)⟩)
        generalize xs[i] = x at *
        generalize ys[i] = y at *
        have HSM := hideIt (fun W hW => rsame_any x y A1 A2 c1 c2 W (HCX.out W hW) (HCY.out W hW))
        have HEQ := hideIt (sameB_iff x y)
        clear hb hb' hcell hcell' hpm hpm' hil him
        generalize sameB x y = sb at *
        cases sb with
        | true =>
          have HE := hideIt (HEQ.out.1 rfl)
          go_wp2_with fail
          refine still_tail 8 (by kernel_rfl) (by kernel_rfl) ?_
          intro w8 hw8
          have HW8 : Hid (Below w.heap.size w w8) := by rw [hw8]; exact HI.out.2.drew
          have a0 : w8.cell? ⟨b, o + i * 5, none⟩ = some (.string (ss x.name)) := HC.out w8 HW8.out 0 _ rfl
          have a1 : w8.cell? ⟨b, o + i * 5 + 1, none⟩ = some (.int .i64 x.field) := HC.out w8 HW8.out 1 _ rfl
          have a2 : w8.cell? ⟨b, o + i * 5 + 2, none⟩ = some (.int .i64 x.data) := HC.out w8 HW8.out 2 _ rfl
          have a3 : w8.cell? ⟨b, o + i * 5 + 3, none⟩ = some (.slice A1 x.par.length c1) := HC.out w8 HW8.out 3 _ rfl
          have a4 : w8.cell? ⟨b, o + i * 5 + 4, none⟩ = some (.int .i64 x.dom) := HC.out w8 HW8.out 4 _ rfl
          have d0 : w8.cell? ⟨b', o' + i * 5, none⟩ = some (.string (ss y.name)) := HC'.out w8 HW8.out 0 _ rfl
          have d1 : w8.cell? ⟨b', o' + i * 5 + 1, none⟩ = some (.int .i64 y.field) := HC'.out w8 HW8.out 1 _ rfl
          have d2 : w8.cell? ⟨b', o' + i * 5 + 2, none⟩ = some (.int .i64 y.data) := HC'.out w8 HW8.out 2 _ rfl
          have d3 : w8.cell? ⟨b', o' + i * 5 + 3, none⟩ = some (.slice A2 y.par.length c2) := HC'.out w8 HW8.out 3 _ rfl
          have d4 : w8.cell? ⟨b', o' + i * 5 + 4, none⟩ = some (.int .i64 y.dom) := HC'.out w8 HW8.out 4 _ rfl
          clear hw8
          simp only [List.take_succ_cons, List.take_zero, List.drop_succ_cons, List.drop_zero]
          repeat still_step
          refine wpStill_nil ?_
          go_wp2_with (go_at_call 17; refine (HSM.out _ HW8.out).mono ?_; rintro e w9 ⟨rfl, hb⟩; have HW9 := hideIt (HW8.out.trans (hb.mono HW8.out.size)); clear hb)
          go_roundg (gk - 1)
          case measure => omega
          case rel => exact ⟨i + 1, by omega, by go_num, by rw [HT1.out, HT2.out, HI.out.1, HE.out], HW9.out⟩
        | false =>
          have HNE : Hid (x ≠ y) := fun h => absurd (HEQ.out.2 h) (by decide)
          go_wp2_with fail
          refine still_tail 8 (by kernel_rfl) (by kernel_rfl) ?_
          intro w8 hw8
          have HW8 : Hid (Below w.heap.size w w8) := by rw [hw8]; exact HI.out.2.drew
          have a0 : w8.cell? ⟨b, o + i * 5, none⟩ = some (.string (ss x.name)) := HC.out w8 HW8.out 0 _ rfl
          have a1 : w8.cell? ⟨b, o + i * 5 + 1, none⟩ = some (.int .i64 x.field) := HC.out w8 HW8.out 1 _ rfl
          have a2 : w8.cell? ⟨b, o + i * 5 + 2, none⟩ = some (.int .i64 x.data) := HC.out w8 HW8.out 2 _ rfl
          have a3 : w8.cell? ⟨b, o + i * 5 + 3, none⟩ = some (.slice A1 x.par.length c1) := HC.out w8 HW8.out 3 _ rfl
          have a4 : w8.cell? ⟨b, o + i * 5 + 4, none⟩ = some (.int .i64 x.dom) := HC.out w8 HW8.out 4 _ rfl
          have d0 : w8.cell? ⟨b', o' + i * 5, none⟩ = some (.string (ss y.name)) := HC'.out w8 HW8.out 0 _ rfl
          have d1 : w8.cell? ⟨b', o' + i * 5 + 1, none⟩ = some (.int .i64 y.field) := HC'.out w8 HW8.out 1 _ rfl
          have d2 : w8.cell? ⟨b', o' + i * 5 + 2, none⟩ = some (.int .i64 y.data) := HC'.out w8 HW8.out 2 _ rfl
          have d3 : w8.cell? ⟨b', o' + i * 5 + 3, none⟩ = some (.slice A2 y.par.length c2) := HC'.out w8 HW8.out 3 _ rfl
          have d4 : w8.cell? ⟨b', o' + i * 5 + 4, none⟩ = some (.int .i64 y.dom) := HC'.out w8 HW8.out 4 _ rfl
          clear hw8
          simp only [List.take_succ_cons, List.take_zero, List.drop_succ_cons, List.drop_zero]
          repeat still_step
          refine wpStill_nil ?_
          go_wp2_with (go_at_call 17; refine (HSM.out _ HW8.out).mono ?_; rintro e w9 ⟨rfl, hb⟩; have HW9 := hideIt (HW8.out.trans (hb.mono HW8.out.size)); clear hb)
          go_ret
          exact ⟨ret_b (bool_of HIFF.out (getElem_ne HG1.out HG2.out HNE.out)).symm, HW9.out⟩
      · have hji : ¬ (i : Int) < (n : Int) := by omega
        have HE : Hid (xs = ys) := by
          have := HI.out.1
          rw [List.take_of_length_le (by rw [← HN.out]; omega), List.take_of_length_le (by rw [← HM.out]; omega)] at this
          exact this
        go_wp2_with fail
        go_ret
        exact ⟨ret_b (HIFF.out.2 HE.out).symm, HI.out.2⟩
  · rw [decide_eq_true (by omega)] at hlen
    have Hl := hideIt hl
    clear hl
    go_enter Tryz.func22, Tryz.ntmps22
    go_wp2_with fail
    go_ret
    exact ⟨ret_b (bool_of HIFF.out (fun e => Hl.out (by rw [HN.out, HM.out, e]))).symm, Below.refl _ _⟩

end Go.Proofs.YtcogkdnlpjfgdaaGreatDoor
