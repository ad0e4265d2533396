/-
  The program's Encode, walked.
-/
import Derived.Test.YtpjgmekpnlpjaaaDoorEraM
import Derived.Lib.SliceRun
namespace Go.Proofs.YtpjgmekpnlpjaaaDoor
open Go.RowKit
set_option linter.unusedVariables false
set_option linter.unusedSimpArgs false

structure VC (x : Cd) (m n : Nat) : Prop where
  fm : Fm m
  f : x.field = (m : Int)
  d : x.data = (n : Int)
  pos : 1 ≤ n
  wid : n + x.par.length ≤ 32
  row : ∀ l ∈ x.par, l.length = n ∧ (∀ a ∈ l, vd x.field a = true) ∧ ∃ a ∈ l, a ≠ 0
theorem vC_spec {x : Cd} (h : vC x = true) : ∃ m n : Nat, VC x m n := by
  unfold vC at h
  simp only [Bool.and_eq_true, decide_eq_true_eq, List.all_eq_true] at h
  obtain ⟨⟨⟨h1, h2⟩, h3⟩, h4⟩ := h
  obtain ⟨m, y, hm, _, hf, _⟩ := vd_spec h1
  refine ⟨m, x.data.toNat, hf, hm, by omega, by omega, by omega, fun l hl => ?_⟩
  have := h4 l hl
  unfold rowOk at this
  simp only [Bool.and_eq_true, decide_eq_true_eq, List.all_eq_true, List.any_eq_true] at this
  exact ⟨by omega, this.1.2, this.2⟩

def encR (x : Cd) (us : List (List UInt8)) : List (List UInt8) × Int :=
  if vC x = true ∧ (us.length : Int) = x.data ∧ alk x.field.toNat us = true then (us ++ x.par.map (fun r => cbS x.field r us), 0) else ([], 1)

theorem eq_nilF (a : Addr) (n c : Nat) (w : World) : (binOp .eql 25 (.slice (some a) n c) (.slice none 0 0)).run Tryd.prog w = .ok (.bool false) w :=
  Lib.run_eql_slice_nil w _ _ _ _ _ _ _ Tryd.underlying25
set_option maxRecDepth 100000 in
set_option maxHeartbeats 1000000 in
theorem clone_any (us : List (List UInt8)) (h0 : 0 < us.length) (hl : us.length ≤ 50000) (D : Option Addr) (cd : Nat) (w : World) (hs : Sl w w.heap.size D 1 us.length (us.map sv)) :
    Calls Tryd.prog 42 #[.slice D us.length cd] w fun e w' => ∃ v, e = .returned v ∧ w'.ownsRow w.heap.size 9 1 v us.length (us.map sv) ∧ Below w.heap.size w w' := by
  obtain ⟨b, o, hD, hb, hcell⟩ := hs.2 (by rw [List.length_map]; exact h0)
  subst hD
  have hb0 := below_new w (.cells #[] 9)
  have HN := hideIt (fun j u (h : (us.map sv)[j]? = some u) => show (w.alloc (.cells #[] 9)).cell? ((⟨b, o, none⟩ : Addr).add j) = some u by rw [addr_add, hb0.cell (p := ⟨b, o + j, none⟩) hb]; exact hcell j u h)
  have HO := hideIt (World.ownsRow_lit (base := w.heap.size) (e := 9) (size := 1) w #[] 0 (Nat.le_refl _) (by decide) rfl)
  have HB0 := hideIt hb0
  have hnil := eq_nilF ⟨b, o, none⟩ us.length cd w
  clear hcell hs hb hb0
  go_enter Tryd.func42, Tryd.ntmps42
  go_wp2_with (first
    | ((with_reducible refine at_append ?_); refine wpList_apG (z := .string ⟨#[]⟩) (size := 1) (bytes := 16) (n := 0) (m := us.length) (news := us.map sv) Tryd.underlying25 (by kernel_rfl) rfl (by decide) (by decide) rfl (.tmp 5) (.tmp 6) rfl rfl HO.out rfl (by simp) HN.out (fun u hu => by obtain ⟨y, _, rfl⟩ := List.mem_map.1 hu; rfl) (by omega) HB0.out.size ?_; intro v' w' HO2 HG2 HA2 HB2))
  go_ret
  exact ⟨_, rfl, by have := HO2.out; rwa [Nat.zero_add, show (#[] : Array Value).toList ++ us.map sv = us.map sv from rfl] at this, HB0.out.trans HB2.out⟩

set_option maxHeartbeats 2000000 in
set_option maxRecDepth 100000 in
theorem encode_any (x : Cd) (A : Option Addr) (c : Nat) (w : World) (hT : Tabs w) (hx : CIn w x A) (us : List (List UInt8)) (hl : us.length ≤ 50000) (hbig : ∀ u ∈ us, u.length ≤ 100000) (D : Option Addr) (cd : Nat) (hs : Sl w w.heap.size D 1 us.length (us.map sv)) :
    Calls Tryd.prog 16 #[x.v A c, .slice D us.length cd] w (StrRes w (encR x us)) := by
  obtain ⟨W, hW⟩ : ∃ W, W = w.alloc (.cells (x.cs A c).toArray 24) := ⟨_, rfl⟩
  have hbw : Below w.heap.size w W := by rw [hW]; exact below_new w _
  have HB := hideIt hbw
  have HBC := hideIt (show BC W w.heap.size x A c by rw [hW]; exact BC.new c hx)
  have HV := hideIt (evalid_any x A c W (hT.keep hbw) HBC.out.cin)
  have hq := i_neq 3 .i64 (us.length : Int) x.data
  have hnot := not_b
  have HSL := hideIt ((hs.below hbw).wide hbw.size)
  have HT := hideIt (hT.keep hbw)
  have HWE := hideIt hW
  have HBG := hideIt hbig
  clear hbw hT hx hs hW hbig
  cases q1 : vC x with
  | true =>
    rw [q1] at HV
    obtain ⟨m, n, hvc⟩ := vC_spec q1
    by_cases q2 : (us.length : Int) = x.data
    · rw [decide_eq_false fun h => h q2] at hq
      have HAL := hideIt (fun W2 (h : Below W.heap.size W W2) => alike_any m hvc.fm us (by omega) D cd W2 ((HSL.out.below h).wide h.size) (fun u hu => Nat.le_trans (HBG.out u hu) (by decide)))
      cases q3 : alk m us with
      | true =>
        rw [q3] at HAL
        have HR : Hid (encR x us = (us ++ x.par.map (fun r => cbS x.field r us), 0)) := hideIt (by unfold encR; rw [if_pos ⟨q1, q2, by rw [hvc.f]; exact q3⟩])
        have HVC := hideIt hvc
        have h0 : 0 < us.length := by have := hvc.pos; have := hvc.d; omega
        have HCL := hideIt (fun W2 (h : Below W.heap.size W W2) => clone_any us h0 hl D cd W2 ((HSL.out.below h).wide h.size))
        have hul : ul us ≤ 100000 := by rw [← ul_zero us h0]; exact HBG.out _ (List.getElem_mem h0)
        have HUL := hideIt hul
        have hp31 : x.par.length ≤ 31 := by have := hvc.wid; have := hvc.pos; omega
        have HFM := hideIt hvc.f
        clear q1 q2 q3 hvc hul
        go_enter Tryd.func16, Tryd.ntmps16
        go_wp2_with (first
          | (go_at_call 19; rw [← HWE.out]; refine HV.out.mono ?_; rintro e w1 ⟨rfl, hb1⟩; have HB1 := hideIt hb1; have c1 := (HBC.out.keep hb1).c1; have c2 := (HBC.out.keep hb1).c2; rw [HFM.out] at c1; clear hb1 HV)
          | (go_at_call 41; refine (HAL.out _ HB1.out).mono ?_; rintro e w2 ⟨rfl, rfl⟩; clear HAL)
          | (go_at_call 42; refine (HCL.out _ HB1.out).mono ?_; rintro e w3 ⟨v3, rfl, ho3, hb3⟩; have HO3 := hideIt ho3; have HB3 := hideIt (HB1.out.trans (hb3.mono HB1.out.size)); have c3 := (HBC.out.keep HB3.out).c3; have HSZ := hideIt HB1.out.size; clear hb3 ho3 HCL))
        clear c1 c2 c3
        go_loopg [6, 33] x.par.length (fun g s6 s33 wr => ∃ j : Nat, j + g = x.par.length ∧ s33 = .int .i64 (j : Int) ∧ Aside (Below W.heap.size W wr) ∧ Aside (wr.ownsRow W.heap.size 9 1 s6 (us.length + j) ((us ++ (x.par.take j).map (fun r => cbS x.field r us)).map sv)))
        case atStart => exact ⟨0, by omega, rfl, HB3.out, by have := own_base HO3.out HSZ.out; simpa [Aside] using this⟩
        case round =>
          obtain ⟨j, hj, rfl, HBW, HO⟩ := hrel
          obtain ⟨A6, c6, rfl, _, _⟩ := own_form HO.out
          obtain ⟨w4, rfl⟩ : ∃ x, x = wr := ⟨wr, rfl⟩
          have HBC2 := hideIt (HBC.out.keep HBW.out)
          have c1 := HBC2.out.c1
          by_cases hlt : j < x.par.length
          · obtain ⟨b, o, A', c', hA, hb, hcell, hsl⟩ := HBC2.out.cin.pm.row hlt
            have hrl := HBC2.out.cin.lens _ (List.getElem_mem hlt)
            have hr100 : (x.par[j]).length ≤ 100000 := by have := (HVC.out.row _ (List.getElem_mem hlt)).1; have := HVC.out.wid; omega
            have HTK := hideIt (take_snoc x.par j hlt)
            subst hA
            have HCM := hideIt (combine_any x.field A' c' (x.par[j]) D cd us w4 (HT.out.keep HBW.out) hr100 HUL.out hsl ((HSL.out.below HBW.out).wide HBW.out.size))
            have hinc := inc_c 3 j (by omega)
            have hji : (j : Int) < (x.par.length : Int) := by omega
            generalize x.par[j] = l at *
            clear hsl hb hrl hr100
            go_wp2_with (first
              | (go_at_call 43; refine HCM.out.mono ?_; rintro e w5 ⟨rfl, hb5⟩; have HB5 := hideIt hb5; have HO5 := hideIt (own_kept HO.out hb5); clear hb5 HCM)
              | ((with_reducible refine at_append ?_); refine wpList_apS (n := us.length + j) rfl (.tmp 45) (.tmp 47) rfl rfl HO5.out rfl (by omega) (Nat.le_trans HBW.out.size HB5.out.size) ?_; intro v6 w6 HO6 HG6 HA6 HB6))
            go_roundg (gk - 1)
            case measure => omega
            case rel => exact ⟨j + 1, by omega, by go_num, HBW.out.trans ((HB5.out.mono HBW.out.size).trans HB6.out), by
              have e : us ++ (x.par.take (j + 1)).map (fun r => cbS x.field r us) = us ++ (x.par.take j).map (fun r => cbS x.field r us) ++ [cbS x.field l us] := by rw [HTK.out, List.map_append, ← List.append_assoc]; rfl
              show World.ownsRow _ _ _ _ _ _ ((us ++ (x.par.take (j + 1)).map (fun r => cbS x.field r us)).map sv)
              rw [e]; exact HO6.out⟩
          · have hji : ¬ (j : Int) < (x.par.length : Int) := by omega
            go_wp2_with fail
            go_ret2
            rw [HR.out]
            refine ⟨_, rfl, ?_, HB.out.trans (HBW.out.mono HB.out.size)⟩
            show w4.ownsRow w.heap.size _ 1 (.slice A6 (us.length + j) c6) _ _
            have := own_base HO.out HB.out.size
            rw [List.take_of_length_le (by omega)] at this
            rw [List.length_append, List.length_map, show us.length + x.par.length = us.length + j by omega]
            exact this
      | false =>
        rw [q3] at HAL
        have HR : Hid (encR x us = ([], 1)) := hideIt (by unfold encR; rw [if_neg (fun h => by rw [hvc.f, Int.toNat_natCast, q3] at h; exact absurd h.2.2 (by decide))])
        have HFM := hideIt hvc.f
        clear q1 q2 q3 hvc
        go_enter Tryd.func16, Tryd.ntmps16
        go_wp2_with (first
          | (go_at_call 19; rw [← HWE.out]; refine HV.out.mono ?_; rintro e w1 ⟨rfl, hb1⟩; have HB1 := hideIt hb1; have c1 := (HBC.out.keep hb1).c1; have c2 := (HBC.out.keep hb1).c2; rw [HFM.out] at c1; clear hb1 HV)
          | (go_at_call 41; refine (HAL.out _ HB1.out).mono ?_; rintro e w2 ⟨rfl, rfl⟩; clear HAL))
        go_ret2
        rw [HR.out]
        exact StrRes.nil (HB.out.trans (HB1.out.mono HB.out.size)) 1
    · rw [decide_eq_true q2] at hq
      have HR : Hid (encR x us = ([], 1)) := hideIt (by unfold encR; rw [if_neg (fun h => q2 h.2.1)])
      clear q1 q2 hvc
      go_enter Tryd.func16, Tryd.ntmps16
      go_wp2_with (first
        | (go_at_call 19; rw [← HWE.out]; refine HV.out.mono ?_; rintro e w1 ⟨rfl, hb1⟩; have HB1 := hideIt hb1; have c2 := (HBC.out.keep hb1).c2; clear hb1 HV))
      go_ret2
      rw [HR.out]
      exact StrRes.nil (HB.out.trans (HB1.out.mono HB.out.size)) 1
  | false =>
    rw [q1] at HV
    have HR : Hid (encR x us = ([], 1)) := hideIt (by unfold encR; rw [if_neg (fun h => by rw [q1] at h; exact absurd h.1 (by decide))])
    clear q1
    go_enter Tryd.func16, Tryd.ntmps16
    go_wp2_with (first
      | (go_at_call 19; rw [← HWE.out]; refine HV.out.mono ?_; rintro e w1 ⟨rfl, hb1⟩; have HB1 := hideIt hb1; clear hb1 HV))
    go_ret2
    rw [HR.out]
    exact StrRes.nil (HB.out.trans (HB1.out.mono HB.out.size)) 1
end Go.Proofs.YtpjgmekpnlpjaaaDoor
