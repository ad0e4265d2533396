/-
  The walk of the law: for every valid code and every selection of present units, the stripe is decodable exactly if the basis has Data units
-/
import Derived.Test.YtpjgmekpnlpjaaaDoorLwE
import Derived.Test.YtpjgmekpnlpjaaaDoorArgK
namespace Go.Proofs.YtpjgmekpnlpjaaaDoor.erasureDecodableCounts
open Go.RowKit
set_option linter.unusedVariables false

/-- How many of the first k units are present. -/
def cnt (hs : List Bool) (k : Nat) : Nat := ((List.range k).filter (hvF hs)).length
theorem cnt_next (hs : List Bool) (k : Nat) : cnt hs (k + 1) = cnt hs k + if hs.getD k false = true then 1 else 0 := by
  unfold cnt
  rw [List.range_succ, List.filter_append, List.length_append]
  congr 1
  simp only [List.filter_cons, List.filter_nil]
  show (if hs.getD k false = true then [k] else []).length = _
  split <;> rfl
theorem cnt_le (hs : List Bool) : ∀ k, cnt hs k ≤ k
  | 0 => Nat.le_refl _
  | k + 1 => by rw [cnt_next]; have := cnt_le hs k; split <;> omega
/-- Are all data units among the first k present? -/
def datK (n : Nat) (hs : List Bool) (k : Nat) : Bool := (List.range k).all fun i => hs.getD i false || decide (n ≤ i)
theorem datK_next (n : Nat) (hs : List Bool) (k : Nat) : datK n hs (k + 1) = (datK n hs k && (hs.getD k false || decide (n ≤ k))) := by
  unfold datK
  rw [List.range_succ, List.all_append]
  simp
/-- Where all data units are present, the basis has as many units as there are data units. -/
theorem data_full {x : Cd} {m n : Nat} (h : VC x m n) {hs : List Bool} (hl : hs.length = n + x.par.length) (hd : datK n hs hs.length = true) : (basL x hs).length = n := by
  have hG := gC_v h
  have h1 := bas_le (n := n) (hv := hvF hs) h.fm hG hs.length
  rw [basL_vc h]
  refine Nat.le_antisymm h1 ?_
  have hidm : ∀ i, i < n → ∀ j, j < n → gC x i j = idm i j := fun i hi j _ => by unfold gC idm; rw [h.dn, if_pos hi]
  have hI : Ind m n n idm := fun c hc h0 k hk => by
    have := h0 k hk
    unfold cb at this
    rw [sm_one hk (fun i _ hne => by unfold idm; rw [if_neg hne, mul_zeroR])] at this
    unfold idm at this
    rw [if_pos rfl, mul_oneR h.fm] at this
    exact this
  refine Ind.exchange (U := sel (gC x) (bas m n (gC x) (hvF hs) hs.length)) h.fm (idm_v h.fm) (fun i j => hG _ j) hI fun k hk => ?_
  have hp : hvF hs k = true := by
    unfold datK at hd
    rw [List.all_eq_true] at hd
    have := hd k (List.mem_range.2 (by omega))
    simpa [show ¬ n ≤ k by omega] using this
  exact (bas_span h.fm hG hs.length k (by omega) hp).congr (fun _ _ _ _ => rfl) fun j hj => hidm k hk j hj
theorem bas_cnt {x : Cd} (hs : List Bool) : (basL x hs).length ≤ cnt hs hs.length := by
  unfold basL cnt
  exact bas_count hs.length

theorem neq_bb (b : Bool) (w : World) : (binOp .neq 4 (.bool b) (.bool b)).run Tryd.prog w = .ok (.bool false) w := by
  cases b <;> kernel_rfl
theorem basis_len (x : Cd) (A : Option Addr) (c : Nat) (w : World) (hT : Tabs w) (hx : CIn w x A) (hs : List Bool) (D : Option Addr) (cd : Nat) (hl : hs.length ≤ 100000) (hD : Sl w w.heap.size D 1 hs.length (hs.map bl)) (hok : okB x hs = true) :
    Calls Tryd.prog 24 #[x.v A c, .slice D hs.length cd] w fun e w' => ∃ B cb, e = .returned (.tuple #[.slice B (basL x hs).length cb, .int .i64 0]) ∧ Below w.heap.size w w' := by
  have h := basis_any x A c w hT hx hs D cd hl hD
  unfold basR at h
  rw [if_pos hok] at h
  refine h.mono ?_
  rintro e w' ⟨v, rfl, ho, hb⟩
  obtain ⟨B, cb, rfl, _, _⟩ := own_form ho
  exact ⟨B, cb, by simp, hb⟩
theorem dec_len (x : Cd) (A : Option Addr) (c : Nat) (w : World) (hT : Tabs w) (hx : CIn w x A) (hs : List Bool) (D : Option Addr) (cd : Nat) (hl : hs.length ≤ 100000) (hD : Sl w w.heap.size D 1 hs.length (hs.map bl)) (hok : okB x hs = true) :
    Calls Tryd.prog 31 #[x.v A c, .slice D hs.length cd] w fun e w' => e = .returned (.bool (decide ((basL x hs).length = nC x))) ∧ Below w.heap.size w w' := by
  have h := decodable_any x A c w hT hx hs D cd hl hD
  rw [hok, Bool.true_and] at h
  exact h

set_option maxHeartbeats 1600000 in
set_option maxRecDepth 100000 in
theorem walk (a0 : Cd) (A0 : Option Addr) (c0 : Nat) (l1 : List Bool) (A1 : Option Addr) (c1 : Nat) (w : World) (x0 : CIn w a0 A0) (x1 : Sl w w.heap.size A1 1 l1.length (l1.map bl)) (m1 : l1.length ≤ 9223372036854775807) (T1 : Tabs w) :
    Calls Tryd.prog 8 #[a0.v A0 c0, .slice A1 l1.length c1] w fun e w' => e = .returned (.bool true) ∧ Below w.heap.size w w' := by
  obtain ⟨W0, hW0⟩ : ∃ W, W = w.alloc (.cells (a0.cs A0 c0).toArray 24) := ⟨_, rfl⟩
  have hb0 : Below w.heap.size w W0 := by rw [hW0]; exact below_new w _
  have HB0 := hideIt hb0
  have HBC := hideIt (show BC W0 w.heap.size a0 A0 c0 by rw [hW0]; exact BC.new c0 x0)
  have HT := hideIt (T1.keep hb0)
  have HX := hideIt ((x1.below hb0).wide hb0.size)
  have HWE := hideIt hW0
  have HSA := hideIt (sanity_any W0 HT.out)
  have hnot := not_b
  have HWI := hideIt (fun (W : World) (h : Below W0.heap.size W0 W) => width_any a0 A0 c0 W (HT.out.keep h) (HBC.out.cin.keep h))
  have HSM := hideIt (fun (W : World) (h : Below W0.heap.size W0 W) => small_any a0 A0 c0 W (HBC.out.cin.keep h))
  have hq0 := i_eql 3 .i64 (wC a0) 0
  have hq1 := i_neq 3 .i64 (l1.length : Int) (wC a0)
  have HM := hideIt m1
  clear hW0 hb0 x0 x1 T1 m1
  by_cases hsm : smB a0 = true
  · rw [hsm] at HSM
    by_cases hz : wC a0 = 0
    · rw [decide_eq_true hz] at hq0
      clear hsm hz
      generalize wC a0 = wz at *
      go_enter Tryd.func8, Tryd.ntmps8
      go_wp2_with (first | (go_at_call 11; rw [← HWE.out]; refine HSA.out.mono ?_; rintro e w1 ⟨rfl, hb1⟩; have HB1 := hideIt hb1; clear hb1 HSA) | (go_at_call 21; refine (HWI.out _ HB1.out).mono ?_; rintro e w2 ⟨rfl, hb2⟩; have HB2 := hideIt (HB1.out.trans (hb2.mono HB1.out.size)); clear hb2 HWI) | (go_at_call 12; refine (HSM.out _ HB2.out).mono ?_; rintro e w3 ⟨rfl, hb3⟩; have HB3 := hideIt (HB2.out.trans (hb3.mono HB2.out.size)); clear hb3 HSM) | ((with_reducible refine at_load ?_); refine wpList_ldC (by kernel_rfl) (.tmp 2) rfl (p := w.heap.size) (c := c0) rfl (HBC.out.keep HB2.out).box ?_) | ((with_reducible refine at_load ?_); refine wpList_ldC (by kernel_rfl) (.tmp 2) rfl (p := w.heap.size) (c := c0) rfl (HBC.out.keep HB1.out).box ?_))
      go_ret
      exact ⟨rfl, HB0.out.trans (HB3.out.mono HB0.out.size)⟩
    · rw [decide_eq_false hz] at hq0
      by_cases hle : (l1.length : Int) = wC a0
      · have hvC : vC a0 = true := by
          cases hv : vC a0 with
          | true => rfl
          | false => exact absurd (by unfold wC; rw [hv]; rfl) hz
        obtain ⟨m, n, hvc⟩ := vC_spec hvC
        have hN : l1.length = n + a0.par.length := by
          unfold wC at hle
          rw [if_pos hvC, hvc.d] at hle
          omega
        have hok : okB a0 l1 = true := by
          unfold okB
          rw [hvC, Bool.true_and, hvc.d]
          exact decide_eq_true (by omega)
        have hN32 : l1.length ≤ 32 := by rw [hN]; exact hvc.wid
        have HBA := hideIt (fun (W : World) (h : Below W0.heap.size W0 W) => basis_len a0 A0 c0 W (HT.out.keep h) (HBC.out.cin.keep h) l1 A1 c1 (by omega) ((HX.out.below h).wide h.size) hok)
        have HDE := hideIt (fun (W : World) (h : Below W0.heap.size W0 W) => dec_len a0 A0 c0 W (HT.out.keep h) (HBC.out.cin.keep h) l1 A1 c1 (by omega) ((HX.out.below h).wide h.size) hok)
        rw [show nC a0 = n from hvc.dn] at HDE
        have HBN := hideIt (bas_cnt (x := a0) l1)
        have HDF := hideIt (fun h : datK n l1 l1.length = true => data_full hvc hN h)
        rw [decide_eq_false (show ¬ (l1.length : Int) ≠ wC a0 by omega)] at hq1
        have HD0 := hideIt hvc.d
        have hn32 : n ≤ 32 := by have := hvc.wid; omega
        clear hsm hz hvC hok hvc hN
        rw [← hle] at hq0 hq1 HWI
        clear hle
        generalize (basL a0 l1).length = L at *
        have he0 : binOp .neq 32 (.int .i64 0) (.int .i64 0) = pure (.bool false) := by rw [i_neq]; rfl
        have hb1t := neq_bb true
        have hb1f := neq_bb false
        go_enter Tryd.func8, Tryd.ntmps8
        go_wp2_with (first | (go_at_call 11; rw [← HWE.out]; refine HSA.out.mono ?_; rintro e w1 ⟨rfl, hb1⟩; have HB1 := hideIt hb1; clear hb1 HSA) | (go_at_call 21; refine (HWI.out _ HB1.out).mono ?_; rintro e w2 ⟨rfl, hb2⟩; have HB2 := hideIt (HB1.out.trans (hb2.mono HB1.out.size)); clear hb2 HWI) | (go_at_call 12; refine (HSM.out _ HB2.out).mono ?_; rintro e w3 ⟨rfl, hb3⟩; have HB3 := hideIt (HB2.out.trans (hb3.mono HB2.out.size)); clear hb3 HSM) | ((with_reducible refine at_load ?_); refine wpList_ldC (by kernel_rfl) (.tmp 2) rfl (p := w.heap.size) (c := c0) rfl (HBC.out.keep HB2.out).box ?_) | ((with_reducible refine at_load ?_); refine wpList_ldC (by kernel_rfl) (.tmp 2) rfl (p := w.heap.size) (c := c0) rfl (HBC.out.keep HB1.out).box ?_))
        go_loopg [7, 8, 9] l1.length (fun gk s7 s8 s9 wr => ∃ k : Nat, k + gk = l1.length ∧ s7 = .bool (datK n l1 k) ∧ s8 = .int .i64 (cnt l1 k : Int) ∧ s9 = .int .i64 (k : Int) ∧ wr = w3)
        case atStart => exact ⟨0, by omega, rfl, rfl, rfl, rfl⟩
        case round =>
          obtain ⟨k, hk, rfl, rfl, rfl, rfl⟩ := hrel
          obtain ⟨w4, rfl⟩ : ∃ x, x = wr := ⟨wr, rfl⟩
          have c2 := (HBC.out.keep HB3.out).c2
          rw [HD0.out] at c2
          have HCL := hideIt (cnt_le l1 k)
          by_cases hlt : k < l1.length
          · obtain ⟨b2, o2, v, hA2, hb2, hv, hc⟩ := (HX.out.below HB3.out).at_ hlt
            rw [List.getElem?_map, List.getElem?_eq_getElem hlt] at hv
            injection hv with hv
            subst hv hA2
            have hgh : l1.getD k false = l1[k] := by simp [List.getD_eq_getElem?_getD, hlt]
            have HC := hideIt (cnt_next l1 k)
            have HD := hideIt (datK_next n l1 k)
            rw [hgh] at HC HD
            have hinc := inc_c 3 k (by omega)
            have hinc2 := inc_c 3 (cnt l1 k) (by have := HCL.out; omega)
            have hki : (k : Int) < (l1.length : Int) := by omega
            change w4.cell? ⟨b2, o2 + k, none⟩ = some (.bool l1[k]) at hc
            generalize l1[k] = bk at *
            generalize hck : cnt l1 k = ck at *
            generalize hdk : datK n l1 k = dk at *
            clear hb2 hgh hck hdk
            cases bk with
            | true =>
              rw [if_pos rfl] at HC
              rw [Bool.true_or, Bool.and_true] at HD
              cases dk with
              | true =>
                go_wp2_with fail
                go_roundg (gk - 1)
                case measure => omega
                case rel => exact ⟨k + 1, by omega, by rw [HD.out], by rw [HC.out]; go_num, by go_num, rfl⟩
              | false =>
                go_wp2_with fail
                go_roundg (gk - 1)
                case measure => omega
                case rel => exact ⟨k + 1, by omega, by rw [HD.out], by rw [HC.out]; go_num, by go_num, rfl⟩
            | false =>
              rw [if_neg (by decide), Nat.add_zero] at HC
              rw [Bool.false_or] at HD
              cases dk with
              | true =>
                rw [Bool.true_and] at HD
                by_cases hge : (n : Int) ≤ (k : Int)
                · have HD2 := hideIt (HD.out.trans (decide_eq_true (by omega)))
                  have hge2 : (k : Int) ≥ (n : Int) := hge
                  go_wp2_with fail
                  go_roundg (gk - 1)
                  case measure => omega
                  case rel => exact ⟨k + 1, by omega, by rw [HD2.out], by rw [HC.out]; rfl, by go_num, rfl⟩
                · have HD2 := hideIt (HD.out.trans (decide_eq_false (by omega)))
                  have hge2 : ¬ (k : Int) ≥ (n : Int) := hge
                  go_wp2_with fail
                  go_roundg (gk - 1)
                  case measure => omega
                  case rel => exact ⟨k + 1, by omega, by rw [HD2.out], by rw [HC.out]; rfl, by go_num, rfl⟩
              | false =>
                rw [Bool.false_and] at HD
                go_wp2_with fail
                go_roundg (gk - 1)
                case measure => omega
                case rel => exact ⟨k + 1, by omega, by rw [HD.out], by rw [HC.out]; rfl, by go_num, rfl⟩
          · have hki : ¬ (k : Int) < (l1.length : Int) := by omega
            have hke : k = l1.length := by omega
            have hbn := HBN.out
            rw [← hke] at hbn HDF
            have hleq : (L : Int) ≤ (cnt l1 k : Int) := by omega
            have c2f := fun (W : World) (h : Below W0.heap.size W0 W) => (HBC.out.keep h).c2
            rw [HD0.out] at c2f
            have HC2 := hideIt c2f
            generalize hck : cnt l1 k = ck at *
            generalize hdk : datK n l1 k = dk at *
            clear hck hdk hke hbn c2f
            by_cases hfull : L = n
            · rw [decide_eq_true hfull] at HDE
              have hq2 : binOp .eql 3 (.int .i64 (L : Int)) (.int .i64 (n : Int)) = pure (.bool true) := by rw [i_eql, decide_eq_true (by omega)]
              have hmany : ¬ (ck : Int) < (n : Int) := by omega
              clear hfull
              cases dk with
              | true =>
                go_wp2_with (first | (go_at_call 24; refine (HBA.out _ HB3.out).mono ?_; rintro e w5 ⟨B5, c5, rfl, hb5⟩; have HB5 := hideIt (HB3.out.trans (hb5.mono HB3.out.size)); clear hb5 HBA) | (go_at_call 31; refine (HDE.out _ HB5.out).mono ?_; rintro e w6 ⟨rfl, hb6⟩; have HB6 := hideIt (HB5.out.trans (hb6.mono HB5.out.size)); have c26 := HC2.out _ HB6.out; clear hb6 HDE HC2) | ((with_reducible refine at_load ?_); refine wpList_ldC (by kernel_rfl) (.tmp 2) rfl (p := w.heap.size) (c := c0) rfl (HBC.out.keep HB5.out).box ?_) | ((with_reducible refine at_load ?_); refine wpList_ldC (by kernel_rfl) (.tmp 2) rfl (p := w.heap.size) (c := c0) rfl (HBC.out.keep HB3.out).box ?_))
                go_ret
                exact ⟨rfl, HB0.out.trans (HB6.out.mono HB0.out.size)⟩
              | false =>
                go_wp2_with (first | (go_at_call 24; refine (HBA.out _ HB3.out).mono ?_; rintro e w5 ⟨B5, c5, rfl, hb5⟩; have HB5 := hideIt (HB3.out.trans (hb5.mono HB3.out.size)); clear hb5 HBA) | (go_at_call 31; refine (HDE.out _ HB5.out).mono ?_; rintro e w6 ⟨rfl, hb6⟩; have HB6 := hideIt (HB5.out.trans (hb6.mono HB5.out.size)); have c26 := HC2.out _ HB6.out; clear hb6 HDE HC2) | ((with_reducible refine at_load ?_); refine wpList_ldC (by kernel_rfl) (.tmp 2) rfl (p := w.heap.size) (c := c0) rfl (HBC.out.keep HB5.out).box ?_) | ((with_reducible refine at_load ?_); refine wpList_ldC (by kernel_rfl) (.tmp 2) rfl (p := w.heap.size) (c := c0) rfl (HBC.out.keep HB3.out).box ?_))
                go_ret
                exact ⟨rfl, HB0.out.trans (HB6.out.mono HB0.out.size)⟩
            · rw [decide_eq_false hfull] at HDE
              have hq2 : binOp .eql 3 (.int .i64 (L : Int)) (.int .i64 (n : Int)) = pure (.bool false) := by rw [i_eql, decide_eq_false (by omega)]
              cases dk with
              | true => exact absurd (HDF.out rfl) hfull
              | false =>
                clear hfull
                by_cases hmany : (ck : Int) < (n : Int)
                · go_wp2_with (first | (go_at_call 24; refine (HBA.out _ HB3.out).mono ?_; rintro e w5 ⟨B5, c5, rfl, hb5⟩; have HB5 := hideIt (HB3.out.trans (hb5.mono HB3.out.size)); clear hb5 HBA) | (go_at_call 31; refine (HDE.out _ HB5.out).mono ?_; rintro e w6 ⟨rfl, hb6⟩; have HB6 := hideIt (HB5.out.trans (hb6.mono HB5.out.size)); have c26 := HC2.out _ HB6.out; clear hb6 HDE HC2) | ((with_reducible refine at_load ?_); refine wpList_ldC (by kernel_rfl) (.tmp 2) rfl (p := w.heap.size) (c := c0) rfl (HBC.out.keep HB5.out).box ?_) | ((with_reducible refine at_load ?_); refine wpList_ldC (by kernel_rfl) (.tmp 2) rfl (p := w.heap.size) (c := c0) rfl (HBC.out.keep HB3.out).box ?_))
                  go_ret
                  exact ⟨rfl, HB0.out.trans (HB6.out.mono HB0.out.size)⟩
                · go_wp2_with (first | (go_at_call 24; refine (HBA.out _ HB3.out).mono ?_; rintro e w5 ⟨B5, c5, rfl, hb5⟩; have HB5 := hideIt (HB3.out.trans (hb5.mono HB3.out.size)); clear hb5 HBA) | (go_at_call 31; refine (HDE.out _ HB5.out).mono ?_; rintro e w6 ⟨rfl, hb6⟩; have HB6 := hideIt (HB5.out.trans (hb6.mono HB5.out.size)); have c26 := HC2.out _ HB6.out; clear hb6 HDE HC2) | ((with_reducible refine at_load ?_); refine wpList_ldC (by kernel_rfl) (.tmp 2) rfl (p := w.heap.size) (c := c0) rfl (HBC.out.keep HB5.out).box ?_) | ((with_reducible refine at_load ?_); refine wpList_ldC (by kernel_rfl) (.tmp 2) rfl (p := w.heap.size) (c := c0) rfl (HBC.out.keep HB3.out).box ?_))
                  go_ret
                  exact ⟨rfl, HB0.out.trans (HB6.out.mono HB0.out.size)⟩
      · rw [decide_eq_true (show (l1.length : Int) ≠ wC a0 from hle)] at hq1
        clear hsm hz hle
        generalize wC a0 = wz at *
        go_enter Tryd.func8, Tryd.ntmps8
        go_wp2_with (first | (go_at_call 11; rw [← HWE.out]; refine HSA.out.mono ?_; rintro e w1 ⟨rfl, hb1⟩; have HB1 := hideIt hb1; clear hb1 HSA) | (go_at_call 21; refine (HWI.out _ HB1.out).mono ?_; rintro e w2 ⟨rfl, hb2⟩; have HB2 := hideIt (HB1.out.trans (hb2.mono HB1.out.size)); clear hb2 HWI) | (go_at_call 12; refine (HSM.out _ HB2.out).mono ?_; rintro e w3 ⟨rfl, hb3⟩; have HB3 := hideIt (HB2.out.trans (hb3.mono HB2.out.size)); clear hb3 HSM) | ((with_reducible refine at_load ?_); refine wpList_ldC (by kernel_rfl) (.tmp 2) rfl (p := w.heap.size) (c := c0) rfl (HBC.out.keep HB2.out).box ?_) | ((with_reducible refine at_load ?_); refine wpList_ldC (by kernel_rfl) (.tmp 2) rfl (p := w.heap.size) (c := c0) rfl (HBC.out.keep HB1.out).box ?_))
        go_ret
        exact ⟨rfl, HB0.out.trans (HB3.out.mono HB0.out.size)⟩
  · rw [Bool.eq_false_iff.2 hsm] at HSM
    clear hsm
    generalize wC a0 = wz at *
    go_enter Tryd.func8, Tryd.ntmps8
    go_wp2_with (first | (go_at_call 11; rw [← HWE.out]; refine HSA.out.mono ?_; rintro e w1 ⟨rfl, hb1⟩; have HB1 := hideIt hb1; clear hb1 HSA) | (go_at_call 21; refine (HWI.out _ HB1.out).mono ?_; rintro e w2 ⟨rfl, hb2⟩; have HB2 := hideIt (HB1.out.trans (hb2.mono HB1.out.size)); clear hb2 HWI) | (go_at_call 12; refine (HSM.out _ HB2.out).mono ?_; rintro e w3 ⟨rfl, hb3⟩; have HB3 := hideIt (HB2.out.trans (hb3.mono HB2.out.size)); clear hb3 HSM) | ((with_reducible refine at_load ?_); refine wpList_ldC (by kernel_rfl) (.tmp 2) rfl (p := w.heap.size) (c := c0) rfl (HBC.out.keep HB2.out).box ?_) | ((with_reducible refine at_load ?_); refine wpList_ldC (by kernel_rfl) (.tmp 2) rfl (p := w.heap.size) (c := c0) rfl (HBC.out.keep HB1.out).box ?_))
    go_ret
    exact ⟨rfl, HB0.out.trans (HB3.out.mono HB0.out.size)⟩

end Go.Proofs.YtpjgmekpnlpjaaaDoor.erasureDecodableCounts
