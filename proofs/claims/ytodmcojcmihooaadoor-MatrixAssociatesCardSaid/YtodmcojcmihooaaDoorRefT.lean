/-
  The reference's Identity and Transpose, walked.
  The reference's Transpose, walked.
-/
import Derived.Test.YtodmcojcmihooaaDoorRefV
import Derived.Test.YtodmcojcmihooaaDoorMatId
import Derived.Test.YtodmcojcmihooaaDoorMatTr
namespace Go.Proofs.YtodmcojcmihooaaDoor
open Go.RowKit
set_option linter.unusedVariables false

set_option maxHeartbeats 1000000 in
set_option maxRecDepth 100000 in
theorem rident_any (m n : Int) (w : World) :
    Calls Tryd.prog 31 #[.int .i64 m, .int .i64 n] w (MRes w (idM m n)) := by
  have HPR := hideIt (Blk.new w 24 (mtC 0 0 0 (.slice none 0 0)))
  obtain ⟨r, hr⟩ : ∃ r, r = idM m n := ⟨_, rfl⟩
  rw [← hr]
  have HR := hideIt hr
  clear hr
  by_cases h1 : vd m 0 = true
  · obtain ⟨k, x, rfl, hx0, hk, _⟩ := vd_spec h1
    clear hx0
    have hn8 : ((k : Int) = 8 ∧ binOp .neq 3 (.int .i64 (k : Int)) (.int .i64 8) = pure (.bool false)) ∨ (binOp .neq 3 (.int .i64 (k : Int)) (.int .i64 8) = pure (.bool true) ∧ binOp .neq 3 (.int .i64 (k : Int)) (.int .i64 16) = pure (.bool false)) := by
      rcases hk with rfl | rfl
      · exact .inl ⟨rfl, int_neqF6 _ rfl⟩
      · exact .inr ⟨int_neqT6 _ (by decide), int_neqF6 _ rfl⟩
    by_cases h2 : isz n = true
    · have HR2 : Hid (r = (mkM ((k : Int)).toNat n.toNat n.toNat idm, 0)) := hideIt (by rw [HR.out]; unfold idM; rw [if_pos ⟨h1, h2⟩])
      obtain ⟨q, rfl, hq⟩ := isz_spec h2
      rw [Int.toNat_natCast, Int.toNat_natCast] at HR2
      have HZS := hideIt (fun W => rzeros_any k q q (by omega) (by omega) W)
      have d1 : decide ((q : Int) < 0) = false := decide_eq_false (by omega)
      have d2 : decide ((32 : Int) < (q : Int)) = false := decide_eq_false (by omega)
      have hqq : q * q ≤ 32 * 32 := Nat.mul_le_mul hq hq
      clear h1 h2 HR hk
      rcases hn8 with ⟨e8, hn8⟩ | ⟨hn8, hn16⟩
      all_goals
        try clear e8
        go_enter Tryd.func31, Tryd.ntmps31
        go_wp2_with (go_at_call 38; refine (HZS.out _).mono ?_; rintro e w5 ⟨gp, rfl, hg, hc, hb5⟩; have HMK := hideIt (Mk.start (m := k) (below_new w _) HPR.out (Nat.le_refl _) hb5 hg hc rfl); clear hg hc hb5)
        obtain ⟨p6, hp6⟩ : ∃ p6, p6 = w5.heap.size := ⟨_, rfl⟩
        rw [← hp6] at HMK ⊢
        clear hp6 HZS HPR
        go_loopg [7] q (fun gk s7 wr => ∃ i : Nat, i + gk = q ∧ s7 = .int .i64 (i : Int) ∧ Aside (MkE w w.heap.size p6 gp k q q wr (idK i)))
        case atStart => exact ⟨0, by omega, rfl, _, HMK.out.congr (fun i j _ _ => by unfold idK; rw [if_neg (by omega)])⟩
        case round =>
          obtain ⟨i, hi, rfl, HI⟩ := hrel
          by_cases hlt : i < q
          · have hinc := inc_c 3 i (by omega)
            have hiq : (i : Int) < (q : Int) := by omega
            have hlt2 := ix_lt hlt hlt
            have hmul := nmul 3 i q (by omega)
            have hadd := nadd 3 (i * q) i (by omega)
            obtain ⟨w6, hmk⟩ := HI.out
            have HM := hideIt hmk
            have HST := hideIt (hmk.store (i := i) (j := i) (x := 1) hlt hlt)
            obtain ⟨hcell, hfr⟩ := hmk.cell (i := i) (j := i) hlt hlt
            have b3 := hmk.box.cell 3
            have hli : ((i * q + i : Nat) : Int) < ((q * q : Nat) : Int) := by omega
            clear HI hmk HMK hlt2
            generalize i * q + i = y at *
            generalize i * q = z at *
            go_wp2_with fail
            go_roundg (gk - 1)
            case measure => omega
            case rel => exact ⟨i + 1, by omega, by go_num, w6, by rw [← idK_next]; exact HST.out⟩
          · have hiq : ¬ (i : Int) < (q : Int) := by omega
            obtain rfl : i = q := by omega
            obtain ⟨w6, hmk⟩ := HI.out
            have HM := hideIt (hmk.congr (fun r j hr hj => idK_all (j := j) hr))
            clear HI hmk HMK
            go_wp2_with (first
              | ((with_reducible refine at_load ?_); refine wpList_ldM rfl (.tmp 6) rfl p6 _ _ _ _ rfl HM.out.box ?_)
              | ((with_reducible refine at_store ?_); refine wpList_stM rfl (.tmp 4) (.tmp 40) rfl w.heap.size _ _ _ _ _ _ _ _ rfl rfl rfl HM.out.res ?_; intro w8 HT8 HB8))
            refine bodyPost_ret (results_two rfl _ _ w.heap.size _ _ _ rfl HB8.out Tryd.underlying24 rfl isz4) rfl ?_
            rw [HR2.out]
            exact HM.out.fin (by omega) (by omega) HT8.out
    · have HR2 : Hid (r = (zeroM, 1)) := hideIt (by rw [HR.out]; unfold idM; rw [if_neg (fun h => h2 h.2)])
      have hC : n < 0 ∨ (0 ≤ n ∧ 32 < n) := by
        rcases Int.lt_or_le n 0 with h | h
        · exact .inl h
        · refine .inr ⟨h, ?_⟩
          rcases Int.lt_or_le 32 n with h1 | h1
          · exact h1
          · exact absurd (by unfold isz; exact decide_eq_true ⟨h, h1⟩) h2
      clear h1 h2 HR hk
      rcases hC with hC | ⟨hC0, hC⟩
      · have d1 : decide (n < 0) = true := decide_eq_true hC
        rcases hn8 with ⟨e8, hn8⟩ | ⟨hn8, hn16⟩
        all_goals
          try clear e8
          go_enter Tryd.func31, Tryd.ntmps31
          go_wp2_with ((with_reducible refine at_store ?_); refine wpList_stM rfl (.tmp 4) (.tmp 22) rfl w.heap.size 0 0 0 0 0 0 (.slice none 0 0) (.slice none 0 0) rfl rfl rfl HPR.out ?_; intro w8 HT8 HB8)
          refine bodyPost_ret (results_two rfl _ _ w.heap.size _ _ _ rfl HB8.out Tryd.underlying24 rfl isz4) rfl ?_
          rw [HR2.out]
          exact MRes.bad (HT8.out.below (below_new w _) (Nat.le_refl _)) 1
      · have d1 : decide (n < 0) = false := decide_eq_false (by omega)
        have d2 : decide ((32 : Int) < n) = true := decide_eq_true hC
        rcases hn8 with ⟨e8, hn8⟩ | ⟨hn8, hn16⟩
        all_goals
          try clear e8
          go_enter Tryd.func31, Tryd.ntmps31
          go_wp2_with ((with_reducible refine at_store ?_); refine wpList_stM rfl (.tmp 4) (.tmp 22) rfl w.heap.size 0 0 0 0 0 0 (.slice none 0 0) (.slice none 0 0) rfl rfl rfl HPR.out ?_; intro w8 HT8 HB8)
          refine bodyPost_ret (results_two rfl _ _ w.heap.size _ _ _ rfl HB8.out Tryd.underlying24 rfl isz4) rfl ?_
          rw [HR2.out]
          exact MRes.bad (HT8.out.below (below_new w _) (Nat.le_refl _)) 1
  · have HR2 : Hid (r = (zeroM, 1)) := hideIt (by rw [HR.out]; unfold idM; rw [if_neg (fun h => h1 h.1)])
    obtain ⟨h8, h16⟩ := vd_zero h1
    have hn8 := int_neqT6 3 h8
    have hn16 := int_neqT6 3 h16
    clear h1 HR h8 h16
    go_enter Tryd.func31, Tryd.ntmps31
    go_wp2_with ((with_reducible refine at_store ?_); refine wpList_stM rfl (.tmp 4) (.tmp 22) rfl w.heap.size 0 0 0 0 0 0 (.slice none 0 0) (.slice none 0 0) rfl rfl rfl HPR.out ?_; intro w8 HT8 HB8)
    refine bodyPost_ret (results_two rfl _ _ w.heap.size _ _ _ rfl HB8.out Tryd.underlying24 rfl isz4) rfl ?_
    rw [HR2.out]
    exact MRes.bad (HT8.out.below (below_new w _) (Nat.le_refl _)) 1

set_option maxHeartbeats 1000000 in
set_option maxRecDepth 100000 in
theorem rtransp_any (a : Mt) (A : Option Addr) (c : Nat) (w : World) (hs : MIn w a A c) :
    Calls Tryd.prog 15 #[mtV a.F a.R a.C (.slice A a.l.length c)] w (MRes w (trM a)) := by
  have HV := hideIt (rvalid_b hs)
  obtain ⟨r, hr⟩ : ∃ r, r = trM a := ⟨_, rfl⟩
  rw [← hr]
  have HR := hideIt hr
  clear hr
  by_cases hv : vM a = true
  · rw [hv] at HV
    have HR2 : Hid (r = (mkM a.F.toNat a.C.toNat a.R.toNat (tr a.e), 0)) := hideIt (by rw [HR.out]; unfold trM; rw [if_pos hv])
    obtain ⟨m, R, C, hm, hR, hC, hE, ha⟩ := vM_is hv
    generalize a.e = E at ha hE HR2
    subst ha
    obtain ⟨b, o, hI, hb⟩ := mk_cell hs
    have hcap := hs.cap
    rw [mk_len] at HV hcap ⊢
    change Hid (∀ W, Below w.heap.size w W → Calls Tryd.prog 22 #[mtV (m : Int) (R : Int) (C : Int) (.slice A (R * C) c)] W fun e w' => e = .returned (.bool true) ∧ Below W.heap.size W w') at HV
    show Calls Tryd.prog 15 #[mtV (m : Int) (R : Int) (C : Int) (.slice A (R * C) c)] w _
    change Hid (r = (mkM ((m : Int)).toNat ((C : Int)).toNat ((R : Int)).toNat (tr E), 0)) at HR2
    rw [Int.toNat_natCast, Int.toNat_natCast, Int.toNat_natCast] at HR2
    obtain ⟨w1, hw1⟩ : ∃ w1, w1 = (w.alloc (.cells #[.int .i64 (m : Int), .int .i64 (R : Int), .int .i64 (C : Int), .slice A (R * C) c] 24)).alloc (.cells #[.int .i64 0, .int .i64 0, .int .i64 0, .slice none 0 0] 24) := ⟨_, rfl⟩
    have hw01 : Below w.heap.size w w1 := by rw [hw1]; exact ((Below.refl _ w).alloc (Nat.le_refl _) _).alloc (by simp) _
    have hba : Blk w1 w.heap.size 24 (mtC (m : Int) (R : Int) (C : Int) (.slice A (R * C) c)) := by rw [hw1]; exact (Blk.new w _ _).alloc _
    have hpr : Blk w1 (w.heap.size + 1) 24 (mtC 0 0 0 (.slice none 0 0)) := by rw [hw1]; exact Blk.new2 w _ _ _
    have HW1 := hideIt hw1
    have HW01 := hideIt hw01
    have HBA := hideIt hba
    have HPR := hideIt hpr
    have HI := hideIt hI
    have HB := hideIt hb
    have HZS := hideIt (fun W => rzeros_any m C R (by omega) (by omega) W)
    have ha0 := hba.cell 0
    have ha1 := hba.cell 1
    have ha2 := hba.cell 2
    have ha3 := hba.cell 3
    clear hw1 hw01 hba hpr hv hE hs hI hb HR
    go_enter Tryd.func15, Tryd.ntmps15
    go_wp2_with fail
    rw [← HW1.out]
    refine (HV.out w1 HW01.out).mono ?_
    rintro e w2 ⟨rfl, hb2⟩
    have HBA2 := hideIt (HBA.out.kept hb2 HBA.out.lt)
    have HPR2 := hideIt (HPR.out.kept hb2 HPR.out.lt)
    have HW02 := hideIt (HW01.out.trans (hb2.mono HW01.out.size))
    have f0 := HBA2.out.cell 0
    have f1 := HBA2.out.cell 1
    have f2 := HBA2.out.cell 2
    clear hb2 ha0 ha1 ha2 ha3 HW1 HW01 HBA HPR HV
    go_wp2_with (go_at_call 38; refine (HZS.out _).mono ?_; rintro e w5 ⟨gp, rfl, hg, hc, hb5⟩; have HMK := hideIt (Mk.start (m := m) HW02.out HPR2.out (Nat.le_succ _) hb5 hg hc rfl); have HB5 := hideIt hb5; have HG := hideIt hg; have k1 := (hb5.cell (p := ⟨w.heap.size, 1, none⟩) HBA2.out.lt).trans f1; have hlt5 : w.heap.size < w5.heap.size := Nat.lt_of_lt_of_le HBA2.out.lt hb5.size; clear hg hc hb5)
    obtain ⟨w6, hw6⟩ : ∃ w6, w6 = w5.alloc (.cells #[.int .i64 (m : Int), .int .i64 (C : Int), .int .i64 (R : Int), .slice (some ⟨gp, 0, none⟩) (C * R) (C * R)] 24) := ⟨_, rfl⟩
    obtain ⟨p6, hp6⟩ : ∃ p6, p6 = w5.heap.size := ⟨_, rfl⟩
    rw [← hw6, ← hp6]
    have HM0 : Hid (Mk w w6 (w.heap.size + 1) p6 gp m C R w6 (fun _ _ => 0)) := by rw [hw6, hp6]; exact HMK.out
    have HARG := hideIt (ArgM.start HI.out HB.out hcap HBA2.out HM0.out.w06 (show Below w2.heap.size w2 w6 by rw [hw6]; exact HB5.out.alloc HB5.out.size _) HG.out HM0.out.gl0)
    clear hw6 hp6 HMK HB5 HG HI HB HBA2 HPR2 HW02 HZS k1 hlt5 f0 f1 f2
    have hRC : R * C ≤ 32 * 32 := Nat.mul_le_mul hR hC
    go_loopg [6] R (fun gk s6 wr => ∃ i : Nat, i + gk = R ∧ s6 = .int .i64 (i : Int) ∧ Aside (Mk w w6 (w.heap.size + 1) p6 gp m C R wr (trK E i 0)))
    case atStart => exact ⟨0, by omega, rfl, HM0.out.congr (fun i j _ _ => by unfold trK; rw [if_neg (by omega)])⟩
    case round =>
      obtain ⟨i, hi, rfl, HI⟩ := hrel
      by_cases hlt : i < R
      · have hinc := inc_c 3 i (by omega)
        have hiR : (i : Int) < (R : Int) := by omega
        have HM := hideIt HI.out
        have a1 := (HARG.out.sel HI.out.sel).box.cell 1
        clear HI HM0
        obtain ⟨g1, rfl⟩ : ∃ x, x = gk := ⟨gk, rfl⟩
        go_wp2_with fail
        clear a1
        go_loopg [7] C (fun gk s7 wr => ∃ j : Nat, j + gk = C ∧ s7 = .int .i64 (j : Int) ∧ Aside (Mk w w6 (w.heap.size + 1) p6 gp m C R wr (trK E i j)))
        case atStart => exact ⟨0, by omega, rfl, HM.out⟩
        case round =>
          obtain ⟨j, hj, rfl, HJ⟩ := hrel
          by_cases hltj : j < C
          · have hincj := inc_c 3 j (by omega)
            have hjC : (j : Int) < (C : Int) := by omega
            have hARG := HARG.out.sel HJ.out.sel
            have hl1 := ix_lt hlt hltj
            have hl2 := ix_lt hltj hlt
            have hcomm : C * R = R * C := Nat.mul_comm C R
            have hA := hARG.ints.adr (by omega)
            have hcell := hARG.ints.cell (i * C + j) hl1
            rw [gl_at E hltj] at hcell
            subst hA
            have a1 := hARG.box.cell 1
            have a2 := hARG.box.cell 2
            have a3 := hARG.box.cell 3
            have b2 := HJ.out.box.cell 2
            have b3 := HJ.out.box.cell 3
            obtain ⟨hcel2, hfr2⟩ := HJ.out.cell (i := j) (j := i) hltj hlt
            have hm1 := nmul 3 j R (by omega)
            have hm2 := nmul 3 i C (by omega)
            have hd1 := nadd 3 (j * R) i (by omega)
            have hd2 := nadd 3 (i * C) j (by omega)
            have hMD := HJ.out.below (Below.refl _ wr).drew
            have HST := hideIt (hMD.store (x := E i j) hltj hlt)
            have HNX := hideIt (trK_next E i j)
            have hli1 : ((i * C + j : Nat) : Int) < ((R * C : Nat) : Int) := by omega
            have hli2 : ((j * R + i : Nat) : Int) < ((C * R : Nat) : Int) := by omega
            clear HJ HM hARG hMD hl1 hl2 hcomm
            generalize E i j = x at hcell HST HNX
            generalize trK E i j j i = y0 at hcel2
            generalize i * C + j = y1 at *
            generalize j * R + i = y2 at *
            generalize i * C = y3 at *
            generalize j * R = y4 at *
            generalize R * C = n1 at *
            generalize C * R = n2 at *
            go_wp2_with fail
            refine still_tail 19 (by kernel_rfl) (by kernel_rfl) ?_
            intro w3 hw3
            have k0 : w3.cell? ⟨b, o + y1, none⟩ = some (.int .i64 (x : Int)) := by rw [hw3]; exact hcell
            have k2 : w3.cell? ⟨w.heap.size, 2, none⟩ = some (.int .i64 (C : Int)) := by rw [hw3]; exact a2
            have k3 : w3.cell? ⟨w.heap.size, 3, none⟩ = some (.slice (some ⟨b, o, none⟩) n1 c) := by rw [hw3]; exact a3
            have l2 : w3.cell? ⟨p6, 2, none⟩ = some (.int .i64 (R : Int)) := by rw [hw3]; exact b2
            have l3 : w3.cell? ⟨p6, 3, none⟩ = some (.slice (some ⟨gp, 0, none⟩) n2 n2) := by rw [hw3]; exact b3
            have l4 : w3.cell? ⟨gp, y2, none⟩ = some (.int .i64 (y0 : Int)) := by rw [hw3]; exact hcel2
            have l5 : w3.frozen? ⟨gp, y2, none⟩ = false := by rw [hw3]; exact hfr2
            rw [← hw3] at HST
            clear hcell a1 a2 a3 b2 b3 hcel2 hfr2 hw3
            simp only [List.take_succ_cons, List.take_zero, List.drop_succ_cons, List.drop_zero]
            repeat still_step
            refine wpStill_nil ?_
            go_wp2_with fail
            go_roundg (gk - 1)
            case measure => omega
            case rel => exact ⟨j + 1, by omega, by go_num, by have h := HST.out; rw [HNX.out] at h; exact h⟩
          · have hjC : ¬ (j : Int) < (C : Int) := by omega
            obtain rfl : j = C := by omega
            have a2 := (HARG.out.sel HJ.out.sel).box.cell 2
            have HM := hideIt (HJ.out.congr (fun r q hr hq => trK_row E i j r q hr))
            clear HJ
            go_wp2_with fail
            go_roundg (g1 - 1)
            case measure => omega
            case rel => exact ⟨i + 1, by omega, by go_num, HM.out⟩
      · have hiR : ¬ (i : Int) < (R : Int) := by omega
        obtain rfl : i = R := by omega
        have a1 := (HARG.out.sel HI.out.sel).box.cell 1
        have HM := hideIt (HI.out.congr (N := tr E) (fun r q hr hq => by unfold trK tr; rw [if_pos (by omega)]))
        clear HI HM0
        go_wp2_with (first
          | ((with_reducible refine at_load ?_); refine wpList_ldM rfl (.tmp 5) rfl p6 _ _ _ _ rfl HM.out.box ?_)
          | ((with_reducible refine at_store ?_); refine wpList_stM rfl (.tmp 2) (.tmp 51) rfl (w.heap.size + 1) _ _ _ _ _ _ _ _ rfl rfl rfl HM.out.res ?_; intro w8 HT8 HB8))
        refine bodyPost_ret (results_two rfl _ _ (w.heap.size + 1) _ _ _ rfl HB8.out Tryd.underlying24 rfl isz4) rfl ?_
        rw [HR2.out]
        exact HM.out.fin (by omega) (by omega) HT8.out
  · rw [Bool.eq_false_iff.2 hv] at HV
    have HR2 : Hid (r = (zeroM, 1)) := hideIt (by rw [HR.out]; unfold trM; rw [if_neg hv])
    obtain ⟨w1, hw1⟩ : ∃ w1, w1 = (w.alloc (.cells #[.int .i64 a.F, .int .i64 a.R, .int .i64 a.C, .slice A a.l.length c] 24)).alloc (.cells #[.int .i64 0, .int .i64 0, .int .i64 0, .slice none 0 0] 24) := ⟨_, rfl⟩
    have hw01 : Below w.heap.size w w1 := by rw [hw1]; exact ((Below.refl _ w).alloc (Nat.le_refl _) _).alloc (by simp) _
    have hpr : Blk w1 (w.heap.size + 1) 24 (mtC 0 0 0 (.slice none 0 0)) := by rw [hw1]; exact Blk.new2 w _ _ _
    have HW1 := hideIt hw1
    have HW01 := hideIt hw01
    have HPR := hideIt hpr
    clear hv hs HR hw1 hw01 hpr
    generalize a.l.length = n at *
    generalize a.F = F at *
    generalize a.R = R at *
    generalize a.C = C at *
    go_enter Tryd.func15, Tryd.ntmps15
    go_wp2_with fail
    rw [← HW1.out]
    refine (HV.out w1 HW01.out).mono ?_
    rintro e w2 ⟨rfl, hb2⟩
    have HPR2 := hideIt (HPR.out.kept hb2 HPR.out.lt)
    have HW02 := hideIt (HW01.out.trans (hb2.mono HW01.out.size))
    clear hb2 HW1 HW01 HPR HV
    go_wp2_with ((with_reducible refine at_store ?_); refine wpList_stM rfl (.tmp 2) (.tmp 12) rfl (w.heap.size + 1) 0 0 0 0 0 0 (.slice none 0 0) (.slice none 0 0) rfl rfl rfl HPR2.out ?_; intro w8 HT8 HB8)
    refine bodyPost_ret (results_two rfl _ _ (w.heap.size + 1) _ _ _ rfl HB8.out Tryd.underlying24 rfl isz4) rfl ?_
    rw [HR2.out]
    exact MRes.bad (HT8.out.below HW02.out (Nat.le_succ _)) 1

end Go.Proofs.YtodmcojcmihooaaDoor
