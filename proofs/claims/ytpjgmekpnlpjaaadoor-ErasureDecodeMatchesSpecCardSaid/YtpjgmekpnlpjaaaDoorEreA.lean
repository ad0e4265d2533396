/-
  The reference's Valid and Width, walked.
  The reference's small functions: Width, Row, times, inverse, SameInts, SameTexts, SameTerms, Small, Few, walked.
-/
import Derived.Test.YtpjgmekpnlpjaaaDoorEraE
import Derived.BigQuiet
import Derived.Test.YtpjgmekpnlpjaaaDoorEraR
import Derived.Test.YtpjgmekpnlpjaaaDoorExpC
namespace Go.Proofs.YtpjgmekpnlpjaaaDoor
open Go.RowKit
set_option linter.unusedVariables false
set_option linter.unusedSimpArgs false

theorem vd8 : vd 8 0 = true := by decide
theorem vd16 : vd 16 0 = true := by decide
theorem vd_not {m : Int} (h8 : m ≠ 8) (h16 : m ≠ 16) : vd m 0 = false := by
  unfold vd; exact decide_eq_false fun h => h.1.elim h8 h16

/-- A code of the size that the laws look at. -/
structure Sm (x : Cd) : Prop where
  data : x.data ≤ 12
  par : x.par.length ≤ 8
  row : ∀ l ∈ x.par, l.length ≤ 12

theorem add_sm (T : TypeId) (a : Int) (b : Nat) (h : 1 ≤ a ∧ a ≤ 12) (hb : b ≤ 8) : binOp .add T (.int .i64 a) (.int .i64 (b : Int)) = pure (.int .i64 (a + b)) := by
  rw [binOp_add]
  simp only [Op.intArith]
  rw [IntWalk.i64_in _ (by omega)]

set_option maxHeartbeats 4000000 in
set_option maxRecDepth 100000 in
theorem rvalid8_any (x : Cd) (A : Option Addr) (c : Nat) (w : World) (hx : CIn w x A) (hsm : Sm x) :
    Calls Tryd.prog 20 #[x.v A c] w fun e w' => e = .returned (.bool (vC x)) ∧ Below w.heap.size w w' := by
  obtain ⟨W, hW⟩ : ∃ W, W = w.alloc (.cells (x.cs A c).toArray 24) := ⟨_, rfl⟩
  have hbw : Below w.heap.size w W := by rw [hW]; exact below_new w _
  have HB := hideIt hbw
  have HBC := hideIt (show BC W w.heap.size x A c by rw [hW]; exact BC.new c hx)
  have c1 := HBC.out.c1
  have c2 := HBC.out.c2
  have c3 := HBC.out.c3
  have hnot := not_b
  rw [hW] at c1 c2 c3
  obtain ⟨r, hr⟩ : ∃ r, r = vC x := ⟨_, rfl⟩
  rw [← hr]
  unfold vC at hr
  have HR := hideIt hr
  have HSM := hideIt hsm
  have hp8 := hsm.par
  have hd12 := hsm.data
  have HWE := hideIt hW
  clear hbw hx hW hsm hr
  have h8 := i_neq 3 .i64 x.field 8
  have h16 := i_neq 3 .i64 x.field 16
  by_cases q1 : vd x.field 0 = true
  · have hf : (decide (x.field ≠ 8) = true ∧ decide (x.field ≠ 16) = false) ∨ decide (x.field ≠ 8) = false := by
      obtain ⟨k, y, hk, hy, hm, _⟩ := vd_spec q1
      rcases hm with rfl | rfl
      · exact .inr (decide_eq_false (by omega))
      · exact .inl ⟨decide_eq_true (by omega), decide_eq_false (by omega)⟩
    rw [q1, Bool.true_and] at HR
    have HM := hideIt (fun a W => rvalid_any x.field a W)
    clear q1
    generalize decide (x.field ≠ 8) = b8 at *
    generalize decide (x.field ≠ 16) = b16 at *
    by_cases q2 : 1 ≤ x.data
    · have hadd := add_sm 3 x.data x.par.length ⟨q2, hd12⟩ hp8
      have hd1 : ¬ x.data < 1 := by omega
      have hd2 : ¬ x.data + (x.par.length : Int) > 32 := by omega
      have HR2 : Hid (r = x.par.all (rowOk x.field x.data)) := hideIt (by rw [HR.out, decide_eq_true q2, decide_eq_true (by omega), Bool.true_and, Bool.true_and])
      have HD := hideIt q2
      clear HR
      rcases hf with ⟨rfl, rfl⟩ | rfl
      all_goals
      ·
          go_enter Tryd.func20, Tryd.ntmps20
          go_wp2_with fail
          rw [← HWE.out] at c1 c2 c3 ⊢
          clear c1 c2 c3 hadd hd1 hd2 h8 h16
          go_loopg [3] x.par.length (fun g s3 wr => ∃ j : Nat, j + g = x.par.length ∧ s3 = .int .i64 (j : Int) ∧ Aside (Below W.heap.size W wr) ∧ Aside ((x.par.take j).all (rowOk x.field x.data) = true))
          case atStart => exact ⟨0, by omega, rfl, Below.refl _ _, by simp [Aside]⟩
          case round =>
            obtain ⟨j, hj, rfl, HBW, HI⟩ := hrel
            obtain ⟨w2, rfl⟩ : ∃ x, x = wr := ⟨wr, rfl⟩
            obtain ⟨ko, rfl⟩ : ∃ x, x = gk := ⟨gk, rfl⟩
            have HBC2 := hideIt (HBC.out.keep HBW.out)
            have c1 := HBC2.out.c1
            have c2 := HBC2.out.c2
            have c3 := HBC2.out.c3
            by_cases hlt : j < x.par.length
            · obtain ⟨b, o, A', c', hA, hb, hcell, hsl⟩ := HBC2.out.cin.pm.row hlt
              have hrl := HSM.out.row _ (List.getElem_mem hlt)
              have HTK := hideIt (take_snoc x.par j hlt)
              have HF := hideIt (fun h => all_at (p := rowOk x.field x.data) hlt h)
              subst hA
              have hinc := inc_c 3 j (by omega)
              have hji : (j : Int) < (x.par.length : Int) := by omega
              have hq := i_neq 3 .i64 (x.par[j].length : Int) x.data
              generalize x.par[j] = l at *
              have HSL := hideIt hsl
              have HBB := hideIt hb
              have HRL := hideIt hrl
              clear hsl hb hrl
              by_cases q3 : (l.length : Int) = x.data
              · rw [decide_eq_false (fun h => h q3)] at hq
                have HQ3 := hideIt q3
                clear q3
                go_wp2_with fail
                go_quiet (fail)
                go_wp2_with fail
                have HBC3 := hideIt (HBC2.out.keep (below_drewN (Below.refl _ w2) 1))
                clear hq c1 c2 c3
                have HCL := hideIt hcell
                clear hcell
                go_loopg [4, 5] l.length (fun g s4 s5 wr => ∃ (k : Nat) (bb : Bool), k + g = l.length ∧ s4 = .bool bb ∧ s5 = .int .i64 (k : Int) ∧ Aside (Below w2.heap.size w2 wr) ∧ Aside (bb = (l.take k).any (fun a => decide (a ≠ 0))) ∧ Aside ((l.take k).all (vd x.field) = true))
                case atStart => exact ⟨0, false, by omega, rfl, rfl, below_drewN (Below.refl _ _) _, by simp [Aside], by simp [Aside]⟩
                case round =>
                  obtain ⟨k, bb, hk, rfl, rfl, HBW3, HI2, HI3⟩ := hrel
                  obtain ⟨w3, rfl⟩ : ∃ x, x = wr := ⟨wr, rfl⟩
                  have HBC4 := hideIt (HBC2.out.keep HBW3.out)
                  have c1 := HBC4.out.c1
                  have c2 := HBC4.out.c2
                  have c3 := HBC4.out.c3
                  have hcell := (HBW3.out.cell (p := ⟨b, o + j, none⟩) HBB.out).trans HCL.out
                  by_cases hkl : k < l.length
                  · obtain ⟨b2, o2, hA2, hb2, hc4⟩ := HSL.out.num hkl
                    have hcell2 := (HBW3.out.cell (p := ⟨b2, o2 + k, none⟩) hb2).trans hc4
                    subst hA2
                    have hki : (k : Int) < x.data := by have := HQ3.out; omega
                    have hki2 : (k : Int) < (l.length : Int) := by omega
                    have HT2 := hideIt (take_snoc l k hkl)
                    have HF2 := hideIt (fun h => all_at (p := vd x.field) hkl h)
                    have hink := inc_c 3 k (by have := HRL.out; omega)
                    have hn0 := i_neq 3 .i64 l[k] 0
                    generalize l[k] = a at *
                    clear hb2 hc4
                    have HMa := hideIt (HM.out a)
                    cases hv : vd x.field a with
                    | true =>
                      rw [hv] at HMa
                      have HV := hideIt hv
                      clear hv
                      generalize hna : decide (a ≠ 0) = na at *
                      have HNA := hideIt hna
                      clear hna
                      go_wp2_with fail
                      go_quiet ((go_at_call 47; refine (HMa.out _).mono ?_; rintro e w' ⟨rfl, hw⟩; exact ⟨rfl, _, hw.symm⟩))
                      cases bb with
                      | true =>
                        go_wp2_with fail
                        go_roundg (gk - 1)
                        case measure => omega
                        case rel => exact ⟨k + 1, true, by omega, rfl, by go_num, below_drewN HBW3.out _, by show true = (l.take (k + 1)).any _; rw [HT2.out, List.any_append, ← HI2.out]; rfl, by show (l.take (k + 1)).all _ = true; rw [HT2.out, List.all_append, HI3.out]; simp [HV.out]⟩
                      | false =>
                        go_wp2_with fail
                        go_roundg (gk - 1)
                        case measure => omega
                        case rel => exact ⟨k + 1, na, by omega, rfl, by go_num, below_drewN HBW3.out _, by show na = (l.take (k + 1)).any _; rw [HT2.out, List.any_append, ← HI2.out, ← HNA.out]; simp, by show (l.take (k + 1)).all _ = true; rw [HT2.out, List.all_append, HI3.out]; simp [HV.out]⟩
                    | false =>
                      rw [hv] at HMa
                      have HE : Hid (r = false) := hideIt (by rw [HR2.out, HF.out (by unfold rowOk; rw [HF2.out hv, Bool.and_false, Bool.false_and])])
                      clear hv
                      go_wp2_with fail
                      go_quiet ((go_at_call 47; refine (HMa.out _).mono ?_; rintro e w' ⟨rfl, hw⟩; exact ⟨rfl, _, hw.symm⟩))
                      go_wp2_with fail
                      go_ret
                      exact ⟨by rw [HE.out]; rfl, HB.out.trans ((HBW.out.trans ((below_drewN HBW3.out _).mono HBW.out.size)).mono HB.out.size)⟩
                  · have hki : ¬ (k : Int) < x.data := by have := HQ3.out; omega
                    have HE1 : Hid (bb = l.any (fun a => decide (a ≠ 0))) := by
                      have := HI2.out
                      rw [List.take_of_length_le (by omega)] at this
                      exact this
                    have HE2 : Hid (l.all (vd x.field) = true) := by
                      have := HI3.out
                      rw [List.take_of_length_le (by omega)] at this
                      exact this
                    have HE3 : Hid (rowOk x.field x.data l = bb) := hideIt (by unfold rowOk; rw [decide_eq_true HQ3.out, HE2.out, ← HE1.out, Bool.true_and, Bool.true_and])
                    cases bb with
                    | true =>
                      go_wp2_with fail
                      go_roundg (ko - 1)
                      case measure => omega
                      case rel => exact ⟨j + 1, by omega, by go_num, HBW.out.trans (HBW3.out.mono HBW.out.size), by show (x.par.take (j + 1)).all _ = true; rw [HTK.out, List.all_append, HI.out]; simp [HE3.out]⟩
                    | false =>
                      have HE : Hid (r = false) := hideIt (by rw [HR2.out, HF.out HE3.out])
                      go_wp2_with fail
                      go_ret
                      exact ⟨by rw [HE.out]; rfl, HB.out.trans ((HBW.out.trans (HBW3.out.mono HBW.out.size)).mono HB.out.size)⟩
              · rw [decide_eq_true q3] at hq
                have HE : Hid (r = false) := hideIt (by rw [HR2.out, HF.out (by unfold rowOk; rw [decide_eq_false q3, Bool.false_and, Bool.false_and])])
                clear q3
                go_wp2_with fail
                go_quiet (fail)
                go_wp2_with fail
                go_ret
                exact ⟨by rw [HE.out]; rfl, HB.out.trans ((below_drewN HBW.out _).mono HB.out.size)⟩
            · have hji : ¬ (j : Int) < (x.par.length : Int) := by omega
              have HE : Hid (r = true) := by
                have := HI.out
                rw [List.take_of_length_le (by omega)] at this
                rw [HR2.out]; exact this
              go_wp2_with fail
              go_ret
              exact ⟨by rw [HE.out]; rfl, HB.out.trans (HBW.out.mono HB.out.size)⟩
    · have hd1 : x.data < 1 := by omega
      have HR2 : Hid (r = false) := hideIt (by rw [HR.out, decide_eq_false q2, Bool.false_and, Bool.false_and])
      clear HR q2
      rcases hf with ⟨rfl, rfl⟩ | rfl
      all_goals
        go_enter Tryd.func20, Tryd.ntmps20
        go_wp2_with fail
        go_ret
        rw [← HWE.out]
        exact ⟨by rw [HR2.out]; rfl, HB.out⟩
  · rw [Bool.not_eq_true] at q1
    have HR2 : Hid (r = false) := hideIt (by rw [HR.out, q1, Bool.false_and, Bool.false_and, Bool.false_and])
    have e8 : decide (x.field ≠ 8) = true := decide_eq_true fun h => by rw [h, vd8] at q1; cases q1
    have e16 : decide (x.field ≠ 16) = true := decide_eq_true fun h => by rw [h, vd16] at q1; cases q1
    rw [e8] at h8
    rw [e16] at h16
    clear q1 e8 e16 HR
    go_enter Tryd.func20, Tryd.ntmps20
    go_wp2_with fail
    go_ret
    rw [← HWE.out]
    exact ⟨by rw [HR2.out]; rfl, HB.out⟩

set_option maxHeartbeats 1000000 in
theorem rwidth_any (x : Cd) (A : Option Addr) (c : Nat) (w : World) (hx : CIn w x A) (hsm : Sm x) :
    Calls Tryd.prog 22 #[x.v A c] w fun e w' => e = .returned (.int .i64 (wC x)) ∧ Below w.heap.size w w' := by
  obtain ⟨W, hW⟩ : ∃ W, W = w.alloc (.cells (x.cs A c).toArray 24) := ⟨_, rfl⟩
  have hbw : Below w.heap.size w W := by rw [hW]; exact below_new w _
  have HB := hideIt hbw
  have HBC := hideIt (show BC W w.heap.size x A c by rw [hW]; exact BC.new c hx)
  have HV := hideIt (rvalid8_any x A c W HBC.out.cin hsm)
  have hnot := not_b
  have HWE := hideIt hW
  clear hbw hx hW hsm
  unfold wC
  cases q : vC x with
  | true =>
    rw [q] at HV
    have hadd := add_ii 3 x.data x.par.length (vC_bounds q)
    rw [if_pos rfl]
    clear q
    go_enter Tryd.func22, Tryd.ntmps22
    go_wp2_with (first
      | (go_at_call 20; rw [← HWE.out]; refine HV.out.mono ?_; rintro e w1 ⟨rfl, hb1⟩; have HBC1 := hideIt (HBC.out.keep hb1); have HB1 := hideIt hb1; clear hb1; have c2 := HBC1.out.c2; have c3 := HBC1.out.c3))
    go_ret
    exact ⟨rfl, HB.out.trans (HB1.out.mono HB.out.size)⟩
  | false =>
    rw [q] at HV
    rw [if_neg (by decide)]
    clear q
    go_enter Tryd.func22, Tryd.ntmps22
    go_wp2_with (first
      | (go_at_call 20; rw [← HWE.out]; refine HV.out.mono ?_; rintro e w1 ⟨rfl, hb1⟩; have HB1 := hideIt hb1; clear hb1))
    go_ret
    exact ⟨rfl, HB.out.trans (HB1.out.mono HB.out.size)⟩

/-- A list of the call's own, handed back. -/
def IntV (w : World) (l : List Int) (e : Ending) (w' : World) : Prop := ∃ v, e = .returned v ∧ w'.ownsRow w.heap.size 3 1 v l.length (l.map iv) ∧ Below w.heap.size w w'

theorem sub_nat (T : TypeId) (a b : Nat) (h : b ≤ a) (ha : a ≤ 200000) : binOp .sub T (.int .i64 (a : Int)) (.int .i64 (b : Int)) = pure (.int .i64 ((a - b : Nat) : Int)) := nsub T a b h (by omega)

set_option maxHeartbeats 1600000 in
set_option maxRecDepth 100000 in
theorem rrow_any {x : Cd} {m n : Nat} (hvc : VC x m n) (A : Option Addr) (c : Nat) (w : World) (hx : CIn w x A) (u : Nat) (hu : u < n + x.par.length) :
    Calls Tryd.prog 38 #[x.v A c, .int .i64 (u : Int)] w (IntV w (nl n (gC x u))) := by
  obtain ⟨W, hW⟩ : ∃ W, W = w.alloc (.cells (x.cs A c).toArray 24) := ⟨_, rfl⟩
  have hbw : Below w.heap.size w W := by rw [hW]; exact below_new w _
  have HB := hideIt hbw
  have HBC := hideIt (show BC W w.heap.size x A c by rw [hW]; exact BC.new c hx)
  have HWE := hideIt hW
  have HVC := hideIt hvc
  have hwid := hvc.wid
  have HD := hideIt hvc.d
  clear hbw hx hW hvc
  go_enter Tryd.func38, Tryd.ntmps38
  go_wp2_with fail
  rw [← HWE.out]
  go_loopg [5, 6] n (fun gk s5 s6 wr => ∃ j : Nat, j + gk = n ∧ s6 = .int .i64 (j : Int) ∧ Aside (Below W.heap.size W wr) ∧ Aside (wr.ownsRow W.heap.size 3 1 s5 j ((nl j (gC x u)).map iv)))
  case atStart => exact ⟨0, by omega, rfl, Below.refl _ _, World.ownsRow_nil _ _ _ _⟩
  case round =>
    obtain ⟨j, hj, rfl, HLW, HO⟩ := hrel
    obtain ⟨w5, rfl⟩ : ∃ x, x = wr := ⟨wr, rfl⟩
    obtain ⟨A5, c5, e5, _, _⟩ := own_form HO.out
    subst e5
    have HBC5 := hideIt (HBC.out.keep HLW.out)
    have c2 := HBC5.out.c2
    have c3 := HBC5.out.c3
    rw [HD.out] at c2
    by_cases hlt : j < n
    · have hji : (j : Int) < (n : Int) := by omega
      have hinc := inc_c 3 j (by omega)
      have HNX := hideIt (show (nl (j + 1) (gC x u)).map iv = (nl j (gC x u)).map iv ++ [iv (gC x u j : Int)] by unfold nl; rw [List.range_succ, List.map_append, List.map_append]; rfl)
      by_cases hun : u < n
      · have hge : ¬ (u : Int) ≥ (n : Int) := by omega
        have hg : gC x u j = if u = j then 1 else 0 := by unfold gC; rw [HVC.out.dn, if_pos hun]
        have heq := i_eql 3 .i64 (u : Int) (j : Int)
        by_cases he : u = j
        · rw [decide_eq_true (by omega)] at heq
          rw [if_pos he] at hg
          have HNY := hideIt (show (nl (j + 1) (gC x u)).map iv = ((nl j (gC x u)) ++ [1]).map iv by rw [HNX.out, hg, List.map_append]; rfl)
          clear he hg hun
          go_wp2_with (first
            | ((with_reducible refine at_append ?_); refine wpList_apI (n := j) rfl (.tmp 32) (.tmp 34) rfl rfl HO.out rfl (by omega) HLW.out.size ?_; intro v6 w6 HO6 HG6 HA6 HB6))
          go_roundg (gk - 1)
          case measure => omega
          case rel => exact ⟨j + 1, by omega, by go_num, HLW.out.trans HB6.out, by rw [HNY.out]; exact HO6.out⟩
        · rw [decide_eq_false (by omega)] at heq
          rw [if_neg he] at hg
          have HNY := hideIt (show (nl (j + 1) (gC x u)).map iv = ((nl j (gC x u)) ++ [0]).map iv by rw [HNX.out, hg, List.map_append]; rfl)
          clear he hg hun
          go_wp2_with (first
            | ((with_reducible refine at_append ?_); refine wpList_apI (n := j) rfl (.tmp 32) (.tmp 34) rfl rfl HO.out rfl (by omega) HLW.out.size ?_; intro v6 w6 HO6 HG6 HA6 HB6))
          go_roundg (gk - 1)
          case measure => omega
          case rel => exact ⟨j + 1, by omega, by go_num, HLW.out.trans HB6.out, by rw [HNY.out]; exact HO6.out⟩
      · have hge : (u : Int) ≥ (n : Int) := by omega
        have hk : u - n < x.par.length := by omega
        have hgp := gC_par HVC.out hk hlt
        rw [show n + (u - n) = u by omega] at hgp
        have hsub := sub_nat 3 u n (by omega) (by omega)
        have heq := i_eql 3 .i64 (u : Int) (j : Int)
        rw [decide_eq_false (by omega)] at heq
        obtain ⟨b, o, A', c', hA, hb, hcell, hsl⟩ := HBC5.out.cin.pm.row hk
        have hrl := (HVC.out.row _ (List.getElem_mem hk)).1
        obtain ⟨b2, o2, hA2, hb2, hc2⟩ := hsl.num (k := j) (by omega)
        have hjl : (j : Int) < ((x.par[u - n]).length : Int) := by omega
        subst hA hA2
        have hkl : ((u - n : Nat) : Int) < (x.par.length : Int) := by omega
        rw [← hgp] at hc2
        have HNY := hideIt (show (nl (j + 1) (gC x u)).map iv = ((nl j (gC x u)) ++ [(gC x u j : Int)]).map iv by rw [HNX.out, List.map_append]; rfl)
        clear hgp hb hb2 hsl hrl hun
        generalize (gC x u j : Int) = gz at *
        generalize x.par[u - n] = l at *
        generalize u - n = un at *
        go_wp2_with (first
          | ((with_reducible refine at_append ?_); refine wpList_apI (n := j) rfl (.tmp 32) (.tmp 34) rfl rfl HO.out rfl (by omega) HLW.out.size ?_; intro v6 w6 HO6 HG6 HA6 HB6))
        go_roundg (gk - 1)
        case measure => omega
        case rel => exact ⟨j + 1, by omega, by go_num, HLW.out.trans HB6.out, by rw [HNY.out]; exact HO6.out⟩
    · have hji : ¬ (j : Int) < (n : Int) := by omega
      obtain rfl : j = n := by omega
      go_wp2_with fail
      go_ret
      exact ⟨_, rfl, by rw [nl_len]; exact own_base HO.out HB.out.size, HB.out.trans (HLW.out.mono HB.out.size)⟩

end Go.Proofs.YtpjgmekpnlpjaaaDoor
