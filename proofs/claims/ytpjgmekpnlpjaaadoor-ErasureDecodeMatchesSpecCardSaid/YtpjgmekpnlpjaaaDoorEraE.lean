/-
  The program's Valid, Width, isPerUnit and isIndex, walked.
-/
import Derived.Test.YtpjgmekpnlpjaaaDoorEraD
namespace Go.Proofs.YtpjgmekpnlpjaaaDoor
open Go.RowKit
set_option linter.unusedVariables false
set_option linter.unusedSimpArgs false

theorem sub_i (T : TypeId) (a : Nat) (ha : a ≤ 9223372036854775807) : binOp .sub T (.int .i64 32) (.int .i64 (a : Int)) = pure (.int .i64 (32 - (a : Int))) := by
  rw [binOp_sub]
  simp only [Op.intArith]
  rw [IntWalk.i64_in _ (by omega)]

theorem all_at {α : Type} {p : α → Bool} {l : List α} {k : Nat} (h : k < l.length) (hp : p l[k] = false) : l.all p = false := by
  rw [List.all_eq_false]; exact ⟨l[k], List.getElem_mem h, by simp [hp]⟩

set_option maxHeartbeats 2000000 in
set_option maxRecDepth 100000 in
theorem evalid_any (x : Cd) (A : Option Addr) (c : Nat) (w : World) (hT : Tabs w) (hx : CIn w x A) :
    Calls Tryd.prog 19 #[x.v A c] w fun e w' => e = .returned (.bool (vC x)) ∧ Below w.heap.size w w' := by
  obtain ⟨W, hW⟩ : ∃ W, W = w.alloc (.cells (x.cs A c).toArray 24) := ⟨_, rfl⟩
  have hbw : Below w.heap.size w W := by rw [hW]; exact below_new w _
  have HB := hideIt hbw
  have HBC := hideIt (show BC W w.heap.size x A c by rw [hW]; exact BC.new c hx)
  have c1 := HBC.out.c1
  have c2 := HBC.out.c2
  have c3 := HBC.out.c3
  have HV := hideIt (valid_any x.field 0 W (hT.keep hbw))
  have hnot := not_b
  have hsub := sub_i 3 x.par.length hx.len
  have HT := hideIt (hT.keep hbw)
  rw [hW] at c1 c2 c3
  have HX := hideIt hx
  obtain ⟨r, hr⟩ : ∃ r, r = vC x := ⟨_, rfl⟩
  rw [← hr]
  have HR := hideIt hr
  unfold vC at hr
  have HWE := hideIt hW
  clear hbw hT hx hW
  by_cases q1 : vd x.field 0 = true
  · by_cases q2 : 1 ≤ x.data
    · by_cases q3 : x.data + x.par.length ≤ 32
      · have hd1 : ¬ x.data < 1 := by omega
        have hd2 : ¬ x.data > 32 - (x.par.length : Int) := by omega
        rw [q1, decide_eq_true q2, decide_eq_true q3, Bool.true_and, Bool.true_and, Bool.true_and] at hr
        rw [q1] at HV
        have HR2 := hideIt hr
        have hn32 : x.par.length ≤ 31 := by omega
        have HD := hideIt (show 1 ≤ x.data ∧ x.data ≤ 100000 by omega)
        clear hr HR q1 q2 q3
        go_enter Tryd.func19, Tryd.ntmps19
        go_wp2_with (first
          | (go_at_call 45; rw [← HWE.out]; refine HV.out.mono ?_; rintro e w' ⟨rfl, rfl⟩; rw [← HWE.out] at c1 c2 c3))
        clear c1 c2 c3 hsub hd1 hd2 HV
        go_loopg [26] x.par.length (fun g s26 wr => ∃ j : Nat, j + g = x.par.length ∧ s26 = .int .i64 (j : Int) ∧ Aside (Below W.heap.size W wr) ∧ Aside ((x.par.take j).all (rowOk x.field x.data) = true))
        case atStart => exact ⟨0, by omega, rfl, Below.refl _ _, by simp [Aside]⟩
        case round =>
          obtain ⟨j, hj, rfl, HBW, HI⟩ := hrel
          obtain ⟨w2, rfl⟩ : ∃ x, x = wr := ⟨wr, rfl⟩
          have HBC2 := hideIt (HBC.out.keep HBW.out)
          by_cases hlt : j < x.par.length
          · have hjl : j < x.par.length := hlt
            obtain ⟨b, o, A', c', hA, hb, hcell, hsl⟩ := HBC2.out.cin.pm.row hjl
            have HIR := hideIt (isRow_any x A c w2 (HT.out.keep HBW.out) HBC2.out.cin HD.out.1 HD.out.2 (x.par[j]) (HBC2.out.cin.lens _ (List.getElem_mem hjl)) A' c' hsl)
            have HTK := hideIt (take_snoc x.par j hjl)
            have HF := hideIt (fun h => all_at (p := rowOk x.field x.data) hjl h)
            subst hA
            have hinc := inc_c 3 j (by omega)
            have hji : (j : Int) < (x.par.length : Int) := by omega
            generalize x.par[j] = l at *
            clear hsl hb
            cases hk : rowOk x.field x.data l with
            | true =>
              rw [hk] at HIR
              have HK := hideIt hk
              clear hk
              go_wp2_with (first
                | ((with_reducible refine at_load ?_); refine wpList_ldC (by kernel_rfl) (.tmp 1) rfl (p := w.heap.size) (c := c) rfl HBC2.out.box ?_)
                | (go_at_call 46; refine HIR.out.mono ?_; rintro e w3 ⟨rfl, hb3⟩; have HB3 := hideIt hb3; clear hb3))
              go_roundg (gk - 1)
              case measure => omega
              case rel => exact ⟨j + 1, by omega, by go_num, HBW.out.trans (HB3.out.mono HBW.out.size), by show (x.par.take (j + 1)).all _ = true; rw [HTK.out, List.all_append, HI.out]; simp [HK.out]⟩
            | false =>
              rw [hk] at HIR
              have HK := hideIt hk
              clear hk
              go_wp2_with (first
                | ((with_reducible refine at_load ?_); refine wpList_ldC (by kernel_rfl) (.tmp 1) rfl (p := w.heap.size) (c := c) rfl HBC2.out.box ?_)
                | (go_at_call 46; refine HIR.out.mono ?_; rintro e w3 ⟨rfl, hb3⟩; have HB3 := hideIt hb3; clear hb3))
              go_ret
              exact ⟨by rw [HR2.out, HF.out HK.out]; rfl, HB.out.trans ((HBW.out.trans (HB3.out.mono HBW.out.size)).mono HB.out.size)⟩
          · have hji : ¬ (j : Int) < (x.par.length : Int) := by omega
            have HE : Hid (r = true) := by
              have := HI.out
              rw [List.take_of_length_le (by omega)] at this
              rw [HR2.out]; exact this
            go_wp2_with fail
            go_ret
            exact ⟨by rw [HE.out]; rfl, HB.out.trans (HBW.out.mono HB.out.size)⟩
      · have hd1 : ¬ x.data < 1 := by omega
        have hd2 : x.data > 32 - (x.par.length : Int) := by omega
        rw [q1, decide_eq_true q2, decide_eq_false q3, Bool.and_false, Bool.false_and] at hr
        rw [q1] at HV
        subst hr
        clear q1 q2 q3 HR
        go_enter Tryd.func19, Tryd.ntmps19
        go_wp2_with (first
          | (go_at_call 45; rw [← HWE.out]; refine HV.out.mono ?_; rintro e w' ⟨rfl, rfl⟩; rw [← HWE.out] at c1 c2 c3))
        go_ret
        exact ⟨rfl, HB.out⟩
    · have hd1 : x.data < 1 := by omega
      rw [q1, decide_eq_false q2, Bool.and_false, Bool.false_and, Bool.false_and] at hr
      rw [q1] at HV
      subst hr
      clear q1 q2 HR
      go_enter Tryd.func19, Tryd.ntmps19
      go_wp2_with (first
        | (go_at_call 45; rw [← HWE.out]; refine HV.out.mono ?_; rintro e w' ⟨rfl, rfl⟩; rw [← HWE.out] at c1 c2 c3))
      go_ret
      exact ⟨rfl, HB.out⟩
  · rw [Bool.not_eq_true] at q1
    rw [q1, Bool.false_and, Bool.false_and, Bool.false_and] at hr
    rw [q1] at HV
    subst hr
    clear q1 HR
    go_enter Tryd.func19, Tryd.ntmps19
    go_wp2_with (first
      | (go_at_call 45; rw [← HWE.out]; refine HV.out.mono ?_; rintro e w' ⟨rfl, rfl⟩))
    go_ret
    exact ⟨rfl, HB.out⟩

theorem vC_bounds {x : Cd} (h : vC x = true) : 1 ≤ x.data ∧ x.data + x.par.length ≤ 32 := by
  unfold vC at h
  simp only [Bool.and_eq_true, decide_eq_true_eq] at h
  exact ⟨h.1.1.2, h.1.2⟩

theorem add_ii (T : TypeId) (a : Int) (b : Nat) (h : 1 ≤ a ∧ a + b ≤ 32) : binOp .add T (.int .i64 a) (.int .i64 (b : Int)) = pure (.int .i64 (a + b)) := by
  rw [binOp_add]
  simp only [Op.intArith]
  rw [IntWalk.i64_in _ (by omega)]

set_option maxHeartbeats 1000000 in
theorem width_any (x : Cd) (A : Option Addr) (c : Nat) (w : World) (hT : Tabs w) (hx : CIn w x A) :
    Calls Tryd.prog 21 #[x.v A c] w fun e w' => e = .returned (.int .i64 (wC x)) ∧ Below w.heap.size w w' := by
  obtain ⟨W, hW⟩ : ∃ W, W = w.alloc (.cells (x.cs A c).toArray 24) := ⟨_, rfl⟩
  have hbw : Below w.heap.size w W := by rw [hW]; exact below_new w _
  have HB := hideIt hbw
  have HBC := hideIt (show BC W w.heap.size x A c by rw [hW]; exact BC.new c hx)
  have HV := hideIt (evalid_any x A c W (hT.keep hbw) HBC.out.cin)
  have hnot := not_b
  have HWE := hideIt hW
  clear hbw hT hx hW
  unfold wC
  cases q : vC x with
  | true =>
    rw [q] at HV
    have hadd := add_ii 3 x.data x.par.length (vC_bounds q)
    rw [if_pos rfl]
    clear q
    go_enter Tryd.func21, Tryd.ntmps21
    go_wp2_with (first
      | (go_at_call 19; rw [← HWE.out]; refine HV.out.mono ?_; rintro e w1 ⟨rfl, hb1⟩; have HBC1 := hideIt (HBC.out.keep hb1); have HB1 := hideIt hb1; clear hb1; have c2 := HBC1.out.c2; have c3 := HBC1.out.c3))
    go_ret
    exact ⟨rfl, HB.out.trans (HB1.out.mono HB.out.size)⟩
  | false =>
    rw [q] at HV
    rw [if_neg (by decide)]
    clear q
    go_enter Tryd.func21, Tryd.ntmps21
    go_wp2_with (first
      | (go_at_call 19; rw [← HWE.out]; refine HV.out.mono ?_; rintro e w1 ⟨rfl, hb1⟩; have HB1 := hideIt hb1; clear hb1))
    go_ret
    exact ⟨rfl, HB.out.trans (HB1.out.mono HB.out.size)⟩
end Go.Proofs.YtpjgmekpnlpjaaaDoor
