/-
  The reference's small functions: Width, Row, times, inverse, SameInts, SameTexts, SameTerms, Small, Few, walked.
-/
import Derived.Test.YtpjgmekpnlpjaaaDoorEraF
import Derived.Test.YtpjgmekpnlpjaaaDoorEraR
namespace Go.Proofs.YtpjgmekpnlpjaaaDoor
open Go.RowKit
set_option linter.unusedVariables false
set_option linter.unusedSimpArgs false

set_option maxHeartbeats 1000000 in
theorem rwidth_any (x : Cd) (A : Option Addr) (c : Nat) (w : World) (hx : CIn w x A) (hsm : Sm x) :
    Calls Tryd.prog 22 #[x.v A c] w fun e w' => e = .returned (.int .i64 (wC x)) ∧ Below w.heap.size w w' := by
  obtain ⟨W, hW⟩ : ∃ W, W = w.alloc (.cells (x.cs A c).toArray 24) := ⟨_, rfl⟩
  have hbw : Below w.heap.size w W := by rw [hW]; exact below_new w _
  have HB := hideIt hbw
  have HBC := hideIt (show BC W w.heap.size x A c by rw [hW]; exact BC.new c hx)
  have HV := hideIt (rvalid8_any x A c W HBC.out.cin hsm)
  have hnot := not_b
  have HWE := hideIt hW
  clear hbw hx hW hsm
  unfold wC
  cases q : vC x with
  | true =>
    rw [q] at HV
    have hadd := add_ii 3 x.data x.par.length (vC_bounds q)
    rw [if_pos rfl]
    clear q
    go_enter Tryd.func22, Tryd.ntmps22
    go_wp2_with (first
      | (go_at_call 20; rw [← HWE.out]; refine HV.out.mono ?_; rintro e w1 ⟨rfl, hb1⟩; have HBC1 := hideIt (HBC.out.keep hb1); have HB1 := hideIt hb1; clear hb1; have c2 := HBC1.out.c2; have c3 := HBC1.out.c3))
    go_ret
    exact ⟨rfl, HB.out.trans (HB1.out.mono HB.out.size)⟩
  | false =>
    rw [q] at HV
    rw [if_neg (by decide)]
    clear q
    go_enter Tryd.func22, Tryd.ntmps22
    go_wp2_with (first
      | (go_at_call 20; rw [← HWE.out]; refine HV.out.mono ?_; rintro e w1 ⟨rfl, hb1⟩; have HB1 := hideIt hb1; clear hb1))
    go_ret
    exact ⟨rfl, HB.out.trans (HB1.out.mono HB.out.size)⟩

/-- A list of the call's own, handed back. -/
def IntV (w : World) (l : List Int) (e : Ending) (w' : World) : Prop := ∃ v, e = .returned v ∧ w'.ownsRow w.heap.size 3 1 v l.length (l.map iv) ∧ Below w.heap.size w w'

theorem sub_nat (T : TypeId) (a b : Nat) (h : b ≤ a) (ha : a ≤ 200000) : binOp .sub T (.int .i64 (a : Int)) (.int .i64 (b : Int)) = pure (.int .i64 ((a - b : Nat) : Int)) := nsub T a b h (by omega)

set_option maxHeartbeats 1600000 in
set_option maxRecDepth 100000 in
theorem rrow_any {x : Cd} {m n : Nat} (hvc : VC x m n) (A : Option Addr) (c : Nat) (w : World) (hx : CIn w x A) (u : Nat) (hu : u < n + x.par.length) :
    Calls Tryd.prog 38 #[x.v A c, .int .i64 (u : Int)] w (IntV w (nl n (gC x u))) := by
  obtain ⟨W, hW⟩ : ∃ W, W = w.alloc (.cells (x.cs A c).toArray 24) := ⟨_, rfl⟩
  have hbw : Below w.heap.size w W := by rw [hW]; exact below_new w _
  have HB := hideIt hbw
  have HBC := hideIt (show BC W w.heap.size x A c by rw [hW]; exact BC.new c hx)
  have HWE := hideIt hW
  have HVC := hideIt hvc
  have hwid := hvc.wid
  have HD := hideIt hvc.d
  clear hbw hx hW hvc
  go_enter Tryd.func38, Tryd.ntmps38
  go_wp2_with fail
  rw [← HWE.out]
  go_loopg [5, 6] n (fun gk s5 s6 wr => ∃ j : Nat, j + gk = n ∧ s6 = .int .i64 (j : Int) ∧ Aside (Below W.heap.size W wr) ∧ Aside (wr.ownsRow W.heap.size 3 1 s5 j ((nl j (gC x u)).map iv)))
  case atStart => exact ⟨0, by omega, rfl, Below.refl _ _, World.ownsRow_nil _ _ _ _⟩
  case round =>
    obtain ⟨j, hj, rfl, HLW, HO⟩ := hrel
    obtain ⟨w5, rfl⟩ : ∃ x, x = wr := ⟨wr, rfl⟩
    obtain ⟨A5, c5, e5, _, _⟩ := own_form HO.out
    subst e5
    have HBC5 := hideIt (HBC.out.keep HLW.out)
    have c2 := HBC5.out.c2
    have c3 := HBC5.out.c3
    rw [HD.out] at c2
    by_cases hlt : j < n
    · have hji : (j : Int) < (n : Int) := by omega
      have hinc := inc_c 3 j (by omega)
      have HNX := hideIt (show (nl (j + 1) (gC x u)).map iv = (nl j (gC x u)).map iv ++ [iv (gC x u j : Int)] by unfold nl; rw [List.range_succ, List.map_append, List.map_append]; rfl)
      by_cases hun : u < n
      · have hge : ¬ (u : Int) ≥ (n : Int) := by omega
        have hg : gC x u j = if u = j then 1 else 0 := by unfold gC; rw [HVC.out.dn, if_pos hun]
        have heq := i_eql 3 .i64 (u : Int) (j : Int)
        by_cases he : u = j
        · rw [decide_eq_true (by omega)] at heq
          rw [if_pos he] at hg
          have HNY := hideIt (show (nl (j + 1) (gC x u)).map iv = ((nl j (gC x u)) ++ [1]).map iv by rw [HNX.out, hg, List.map_append]; rfl)
          clear he hg hun
          go_wp2_with (first
            | ((with_reducible refine at_append ?_); refine wpList_apI (n := j) rfl (.tmp 32) (.tmp 34) rfl rfl HO.out rfl (by omega) HLW.out.size ?_; intro v6 w6 HO6 HG6 HA6 HB6))
          go_roundg (gk - 1)
          case measure => omega
          case rel => exact ⟨j + 1, by omega, by go_num, HLW.out.trans HB6.out, by rw [HNY.out]; exact HO6.out⟩
        · rw [decide_eq_false (by omega)] at heq
          rw [if_neg he] at hg
          have HNY := hideIt (show (nl (j + 1) (gC x u)).map iv = ((nl j (gC x u)) ++ [0]).map iv by rw [HNX.out, hg, List.map_append]; rfl)
          clear he hg hun
          go_wp2_with (first
            | ((with_reducible refine at_append ?_); refine wpList_apI (n := j) rfl (.tmp 32) (.tmp 34) rfl rfl HO.out rfl (by omega) HLW.out.size ?_; intro v6 w6 HO6 HG6 HA6 HB6))
          go_roundg (gk - 1)
          case measure => omega
          case rel => exact ⟨j + 1, by omega, by go_num, HLW.out.trans HB6.out, by rw [HNY.out]; exact HO6.out⟩
      · have hge : (u : Int) ≥ (n : Int) := by omega
        have hk : u - n < x.par.length := by omega
        have hgp := gC_par HVC.out hk hlt
        rw [show n + (u - n) = u by omega] at hgp
        have hsub := sub_nat 3 u n (by omega) (by omega)
        have heq := i_eql 3 .i64 (u : Int) (j : Int)
        rw [decide_eq_false (by omega)] at heq
        obtain ⟨b, o, A', c', hA, hb, hcell, hsl⟩ := HBC5.out.cin.pm.row hk
        have hrl := (HVC.out.row _ (List.getElem_mem hk)).1
        obtain ⟨b2, o2, hA2, hb2, hc2⟩ := hsl.num (k := j) (by omega)
        have hjl : (j : Int) < ((x.par[u - n]).length : Int) := by omega
        subst hA hA2
        have hkl : ((u - n : Nat) : Int) < (x.par.length : Int) := by omega
        rw [← hgp] at hc2
        have HNY := hideIt (show (nl (j + 1) (gC x u)).map iv = ((nl j (gC x u)) ++ [(gC x u j : Int)]).map iv by rw [HNX.out, List.map_append]; rfl)
        clear hgp hb hb2 hsl hrl hun
        generalize (gC x u j : Int) = gz at *
        generalize x.par[u - n] = l at *
        generalize u - n = un at *
        go_wp2_with (first
          | ((with_reducible refine at_append ?_); refine wpList_apI (n := j) rfl (.tmp 32) (.tmp 34) rfl rfl HO.out rfl (by omega) HLW.out.size ?_; intro v6 w6 HO6 HG6 HA6 HB6))
        go_roundg (gk - 1)
        case measure => omega
        case rel => exact ⟨j + 1, by omega, by go_num, HLW.out.trans HB6.out, by rw [HNY.out]; exact HO6.out⟩
    · have hji : ¬ (j : Int) < (n : Int) := by omega
      obtain rfl : j = n := by omega
      go_wp2_with fail
      go_ret
      exact ⟨_, rfl, by rw [nl_len]; exact own_base HO.out HB.out.size, HB.out.trans (HLW.out.mono HB.out.size)⟩

theorem rtimes8_any (m a b : Nat) (hm : Fm m) (ha : a < 2 ^ m) (hb : b < 2 ^ m) (w : World) :
    Calls Tryd.prog 83 #[.int .i64 (m : Int), .int .i64 (a : Int), .int .i64 (b : Int)] w fun e w' => e = .returned (.int .i64 ((mul m a b : Nat) : Int)) ∧ w = w' := by
  have HM := hideIt (rmul_any (m : Int) (a : Int) (b : Int) w)
  rw [mlR_is hm ha hb] at HM
  clear hm ha hb
  generalize mul m a b = y at *
  go_enter Tryd.func83, Tryd.ntmps83
  go_wp2_with (first
    | (go_at_call 39; refine HM.out.mono ?_; rintro e w' ⟨rfl, rfl⟩))
  go_ret
  exact ⟨rfl, rfl⟩
theorem rinverse8_any (m a : Nat) (hm : Fm m) (ha : a < 2 ^ m) (h0 : a ≠ 0) (w : World) :
    Calls Tryd.prog 82 #[.int .i64 (m : Int), .int .i64 (a : Int)] w fun e w' => e = .returned (.int .i64 ((inv m a : Nat) : Int)) ∧ w = w' := by
  have HM := hideIt (rinv_any (m : Int) (a : Int) w)
  rw [invR_is hm ha h0] at HM
  clear hm ha h0
  generalize inv m a = y at *
  go_enter Tryd.func82, Tryd.ntmps82
  go_wp2_with (first
    | (go_at_call 86; refine HM.out.mono ?_; rintro e w' ⟨rfl, rfl⟩))
  go_ret
  exact ⟨rfl, rfl⟩
end Go.Proofs.YtpjgmekpnlpjaaaDoor
