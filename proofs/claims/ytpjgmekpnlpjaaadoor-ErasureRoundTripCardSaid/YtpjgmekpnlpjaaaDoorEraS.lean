/-
  terms, walked.
-/
import Derived.Test.YtpjgmekpnlpjaaaDoorEraR
namespace Go.Proofs.YtpjgmekpnlpjaaaDoor
open Go.RowKit
set_option linter.unusedVariables false
set_option linter.unusedSimpArgs false

theorem VC.ok {x : Cd} {hs : List Bool} (h : okB x hs = true) : ∃ m n, VC x m n ∧ hs.length = n + x.par.length := by
  unfold okB at h
  rw [Bool.and_eq_true] at h
  obtain ⟨m, n, hv⟩ := vC_spec h.1
  have := of_decide_eq_true h.2
  exact ⟨m, n, hv, by have := hv.d; omega⟩
theorem basL_vc {x : Cd} {m n : Nat} (h : VC x m n) (hs : List Bool) : basL x hs = bas m n (gC x) (hvF hs) hs.length := by unfold basL; rw [h.fn, h.dn]
theorem recov_vc {x : Cd} {m n : Nat} (h : VC x m n) (hs : List Bool) (u : Nat) : recov x hs u ↔ Dep m n (basL x hs).length (sel (gC x) (basL x hs)) (gC x u) := by
  show Dep x.field.toNat x.data.toNat _ _ _ ↔ _
  rw [h.fn, h.dn]
theorem cofU_vc {x : Cd} {m n : Nat} (h : VC x m n) (hs : List Bool) (u : Nat) : cofU x hs u = cof m n (basL x hs).length (sel (gC x) (basL x hs)) (gC x u) := by
  show cof x.field.toNat x.data.toNat _ _ _ = _
  rw [h.fn, h.dn]

theorem rdl_at {n k : Nat} (r : Nat → Nat) (hk : k < n) : (((nl (n + n) r).map iv).drop n)[k]? = some (.int .i64 (r (n + k) : Int)) := by
  rw [List.getElem?_drop, iv_at (by omega)]

set_option maxHeartbeats 1600000 in
set_option maxRecDepth 100000 in
theorem terms_any {x : Cd} {m n : Nat} (hvc : VC x m n) (hs : List Bool) {pv : List Nat} {Q : Mx} (hR : Rdc m n (gC x) (basL x hs) pv Q) (u : Nat) (hu : u < n + x.par.length) (pb : Nat) {gA uA rA pA : Option Addr} {gc uc rc pc : Nat} (hgc : (n + x.par.length) * n ≤ gc) (w : World) (hT : Tabs w)
    (hb : Blk w pb 74 (baC (m : Int) ((n + x.par.length : Nat) : Int) (n : Int) (.slice gA ((n + x.par.length) * n) gc) (.slice uA (basL x hs).length uc) (.slice rA (basL x hs).length rc) (.slice pA pv.length pc))) (hM : BaM w x m n (basL x hs) pv Q gA uA rA pA) :
    Calls Tryd.prog 51 #[.pointer (some ⟨pb, 0, none⟩), .int .i64 (u : Int)] w (TermRes w (trmR x hs u)) := by
  have hGV := gC_v hvc
  have hBn : (basL x hs).length ≤ n := by rw [basL_vc hvc]; exact bas_le hvc.fm hGV _
  have hind : Ind m n (basL x hs).length (sel (gC x) (basL x hs)) := by rw [basL_vc hvc]; exact bas_ind hvc.fm hGV _
  have HIS := hideIt (rd_is hvc.fm hR hGV (u := u))
  have hrv := rd_v (Q := Q) (pv := pv) hvc.fm (pad_v (n := n) (hGV u)) (basL x hs).length
  have hcof := fun hz => rd_cof hvc.fm hR hGV (u := u) hz
  have hhi := fun k h1 h2 => rd_hi (Q := Q) (pv := pv) hR (gC x u) (basL x hs).length (Nat.le_refl _) k h1 h2
  have HRD := hideIt (reduced_any hvc hR hBn u hu pb hgc w hT hb hM)
  have HTR := hideIt (fun (hd : Dep m n (basL x hs).length (sel (gC x) (basL x hs)) (gC x u)) => show trmR x hs u = (tms (basL x hs) (fun k => rd m Q pv (pad n (gC x u)) (basL x hs).length (n + k)) n, 0) by
    unfold trmR
    rw [if_pos ((recov_vc hvc hs u).2 hd), cofU_vc hvc]
    congr 1
    have e1 := tms_more (B := basL x hs) (c := fun k => rd m Q pv (pad n (gC x u)) (basL x hs).length (n + k)) (p := (basL x hs).length) (n - (basL x hs).length) (fun i h1 h2 => hhi i h1 (by omega))
    rw [show (basL x hs).length + (n - (basL x hs).length) = n by omega] at e1
    rw [e1]
    exact tms_congr fun i hi => cof_is hind (fun k => hrv _) (hcof ((rd_is hvc.fm hR hGV (u := u)).2 hd)) i hi)
  have HTN := hideIt (fun (hd : ¬ Dep m n (basL x hs).length (sel (gC x) (basL x hs)) (gC x u)) => show trmR x hs u = ([], 11) by
    unfold trmR
    rw [if_neg fun h => hd ((recov_vc hvc hs u).1 h)])
  have HHI := hideIt hhi
  have c2 : w.cell? ⟨pb, 2, none⟩ = some (.int .i64 (n : Int)) := hb.cell 2
  have HB := hideIt hb
  have HM := hideIt hM
  have HBN := hideIt hBn
  have hpos := hvc.pos
  have hwid := hvc.wid
  clear hrv hcof hhi hind hGV hb hM hT hR hvc hBn
  generalize rd m Q pv (pad n (gC x u)) (basL x hs).length = r at *
  generalize basL x hs = B at *
  go_enter Tryd.func51, Tryd.ntmps51
  go_wp2_with (first
    | (go_at_call 70; refine HRD.out.mono ?_; rintro e w7 ⟨g, rfl, hg7, hk7, hb7⟩; have HB7 := hideIt hb7; have HG7 := hideIt (And.intro hg7 hk7); have c2 : w7.cell? ⟨pb, 2, none⟩ = some (.int .i64 (n : Int)) := (HB.out.kept hb7 HB.out.lt).cell 2; clear hg7 hk7 hb7 HRD))
  go_loopg [23] n (fun gk s23 wr => ∃ j : Nat, j + gk = n ∧ s23 = .int .i64 (j : Int) ∧ wr = w7 ∧ Aside (∀ i, i < j → r i = 0))
  case atStart => exact ⟨0, by omega, rfl, rfl, fun i hi => absurd hi (Nat.not_lt_zero i)⟩
  case round =>
    obtain ⟨j, hj, rfl, rfl, HZ⟩ := hrel
    obtain ⟨w7, rfl⟩ : ∃ x, x = wr := ⟨wr, rfl⟩
    by_cases hlt : j < n
    · have hcg := HG7.out.2.cell j
      rw [iv_at (by omega)] at hcg
      have hji : (j : Int) < (n : Int) := by omega
      have hinc := inc_c 3 j (by omega)
      by_cases h0 : r j = 0
      · rw [h0] at hcg
        have HZ2 := hideIt (show ∀ i, i < j + 1 → r i = 0 from fun i hi => by
          by_cases e : i = j
          · rw [e]; exact h0
          · exact HZ.out i (by omega))
        clear h0
        go_wp2_with fail
        go_roundg (gk - 1)
        case measure => omega
        case rel => exact ⟨j + 1, by omega, by go_num, rfl, HZ2.out⟩
      · have hq : binOp .neq 3 (.int .i64 (r j : Int)) (.int .i64 0) = pure (.bool true) := neqT (a := r j) (b := 0) 3 h0
        have HE := hideIt (HTN.out fun hd => h0 (HIS.out.2 hd j hlt))
        clear h0
        generalize r j = rj at hcg hq
        go_wp2_with fail
        go_ret2
        rw [HE.out]
        exact TermRes.nil HB7.out 11
    · have hji : ¬ (j : Int) < (n : Int) := by omega
      have HE := hideIt (HTR.out (HIS.out.1 fun i hi => HZ.out i (by omega)))
      have c2 : w7.cell? ⟨pb, 2, none⟩ = some (.int .i64 (n : Int)) := (HB.out.kept HB7.out HB.out.lt).cell 2
      have hnn : (n : Int) ≤ ((n + n : Nat) : Int) := by omega
      clear HZ hlt hj
      go_wp2_with fail
      clear c2
      go_loopg [9, 38] n (fun gk s9 s38 wr => ∃ i : Nat, i + gk = n ∧ s38 = .int .i64 (i : Int) ∧ Aside (Below w7.heap.size w7 wr) ∧ Aside (wr.ownsRow w7.heap.size 63 2 s9 (tms B (fun k => r (n + k)) i).length (tcs (tms B (fun k => r (n + k)) i))))
      case atStart => exact ⟨0, by omega, rfl, Below.refl _ _, World.ownsRow_nil _ _ _ _⟩
      case round =>
        obtain ⟨i, hi, rfl, HLW, HO⟩ := hrel
        obtain ⟨w8, rfl⟩ : ∃ x, x = wr := ⟨wr, rfl⟩
        obtain ⟨A9, c9, e9, _, _⟩ := own_form HO.out
        subst e9
        by_cases hlt : i < n
        · have hcg := (HG7.out.2.kept HLW.out HG7.out.2.lt).cell (n + i)
          rw [iv_at (by omega)] at hcg
          have hii : (i : Int) < (n : Int) := by omega
          have hinc := inc_c 3 i (by omega)
          by_cases h0 : r (n + i) = 0
          · have HN := hideIt (show tms B (fun k => r (n + k)) (i + 1) = tms B (fun k => r (n + k)) i from if_pos h0)
            rw [h0] at hcg
            clear h0
            go_wp2_with fail
            go_roundg (gk - 1)
            case measure => omega
            case rel => exact ⟨i + 1, by omega, by go_num, HLW.out, by rw [HN.out]; exact HO.out⟩
          · have hq : binOp .neq 3 (.int .i64 (r (n + i) : Int)) (.int .i64 0) = pure (.bool true) := neqT (a := r (n + i)) (b := 0) 3 h0
            have hip : i < B.length := Nat.lt_of_not_le fun hle => h0 (HHI.out i hle hlt)
            have HN := hideIt (show tms B (fun k => r (n + k)) (i + 1) = tms B (fun k => r (n + k)) i ++ [(B.getD i 0, r (n + i))] from if_neg h0)
            have HTL := hideIt (tms_len B (fun k => r (n + k)) i)
            obtain ⟨b, o, v, hA, hb2, hv, hc⟩ := (HM.out.uni.below (HB7.out.trans (HLW.out.mono HB7.out.size))).at_ hip
            rw [iv_at hip] at hv
            injection hv with hv
            subst hv hA
            have hpi : (i : Int) < (B.length : Int) := by omega
            have c4 : w8.cell? ⟨pb, 4, none⟩ = some (.slice (some ⟨b, o, none⟩) B.length uc) := (HB.out.kept (HB7.out.trans (HLW.out.mono HB7.out.size)) HB.out.lt).cell 4
            clear h0 hb2
            generalize r (n + i) = ri at *
            generalize B.getD i 0 = bi at *
            generalize tms B (fun k => r (n + k)) i = L at *
            go_wp2_with (first
              | ((with_reducible refine at_append ?_); refine wpList_apT (t := (bi, ri)) (n := L.length) rfl (.tmp 45) (.tmp 55) rfl rfl HO.out rfl (by have := HTL.out; have := HBN.out; omega) HLW.out.size ?_; intro v9 w9 HO9 HG9 HA9 HB9))
            go_roundg (gk - 1)
            case measure => omega
            case rel => exact ⟨i + 1, by omega, by go_num, HLW.out.trans HB9.out, by rw [HN.out, List.length_append]; exact HO9.out⟩
        · obtain rfl : i = n := by omega
          have hii : ¬ (i : Int) < (i : Int) := by omega
          go_wp2_with fail
          go_ret2
          rw [HE.out]
          exact ⟨_, rfl, by exact own_base HO.out HB7.out.size, HB7.out.trans (HLW.out.mono HB7.out.size)⟩
end Go.Proofs.YtpjgmekpnlpjaaaDoor
