/-
  The walk of the law: A plan without an error reads present units alone, in order, none of them the unit itself, and at most as many as there are data units.
-/
import Derived.Test.YtklngodlijiccaaDoorRepC4
namespace Go.Proofs.YtklngodlijiccaaDoor.repairReadsPresent
open Go.RowKit
set_option linter.unusedVariables false


set_option maxHeartbeats 1600000 in
set_option maxRecDepth 100000 in
theorem walk (a0 : Cd) (A0 : Option Addr) (c0 : Nat) (l1 : List Bool) (A1 : Option Addr) (c1 : Nat) (a2 : Int) (w : World) (x0 : CIn w a0 A0) (x1 : Sl w w.heap.size A1 1 l1.length (l1.map bl)) (m1 : l1.length ≤ 140737488351232) (w2 : -9223372036854775808 ≤ a2 ∧ a2 ≤ 9223372036854775807) (T1 : Tabs w) :
    Calls Tryd.prog 7 #[a0.v A0 c0, .slice A1 l1.length c1, .int .i64 a2] w fun e w' => e = .returned (.bool true) ∧ Below w.heap.size w w' := by
  obtain ⟨W0, hW0⟩ : ∃ W, W = w.alloc (.cells (a0.cs A0 c0).toArray 24) := ⟨_, rfl⟩
  have hb0 : Below w.heap.size w W0 := by rw [hW0]; exact below_new w _
  have HB0 := hideIt hb0
  have HBC := hideIt (show BC W0 w.heap.size a0 A0 c0 by rw [hW0]; exact BC.new c0 x0)
  have HT := hideIt (T1.keep hb0)
  have HX := hideIt ((x1.below hb0).wide hb0.size)
  have HWE := hideIt hW0
  have HSA := hideIt (fun (W : World) (h : Below W0.heap.size W0 W) => sanity_any W (HT.out.keep h))
  have HSM := hideIt (small_any a0 A0 c0 W0 HBC.out.cin)
  have hnot := not_b
  clear hW0 hb0 x0 x1 T1 m1
  by_cases hsm : smB a0 = true
  · rw [hsm] at HSM
    have hS := smB_sm hsm
    have HPA := hideIt (fun (W : World) (h : Below W0.heap.size W0 W) => plan_any a0 A0 c0 W (HT.out.keep h) (HBC.out.keep h).cin l1 A1 c1 ((HX.out.below h).wide h.size) a2)
    obtain ⟨pu, L, er, hr⟩ : ∃ pu L er, planR a0 l1 a2 = ((pu, L), er) := ⟨_, _, _, rfl⟩
    rw [hr] at HPA
    by_cases he0 : er = 0
    · subst he0
      obtain ⟨mm, nn, k, hu, hpu, hvc, hl, hok, hk, hg, _, hpos⟩ := planR_fine hr
      subst hu hpu
      have hnd : a0.data = (nn : Int) := hvc.d
      have hlen := hg.len
      have hw32 := hvc.wid
      have HG := hideIt hg
      have hne : binOp .neq 31 (.int .i64 0) (.int .i64 0) = pure (.bool false) := by rw [i_neq]; rfl
      have hq1 : binOp .eql 3 (.int .i64 (k : Int)) (.int .i64 (k : Int)) = pure (.bool true) := by rw [i_eql, decide_eq_true rfl]
      have hq2 : binOp .leq 3 (.int .i64 (L.length : Int)) (.int .i64 a0.data) = pure (.bool true) := by rw [binOp_leq, decide_eq_true (by omega)]
      have hq3 : binOp .gtr 3 (.int .i64 (L.length : Int)) (.int .i64 0) = pure (.bool true) := by rw [binOp_gtr, decide_eq_true (by omega)]
      obtain ⟨b1, o1, hA1, hbb1, hcc1⟩ := HX.out.2 (by rw [List.length_map]; omega)
      have HC1 := hideIt (fun (W : World) (h : Below W0.heap.size W0 W) (j : Nat) (hj : j < l1.length) (hb : l1[j] = true) => show W.cell? ⟨b1, o1 + j, none⟩ = some (.bool true) from (h.cell (p := ⟨b1, o1 + j, none⟩) hbb1).trans (hcc1 j _ (by rw [List.getElem?_map, List.getElem?_eq_getElem hj, hb]; rfl)))
      have hL32 : L.length ≤ 32 := by omega
      subst hA1
      clear hsm hr hS hl hok hg hnd hlen hw32 hvc hbb1 hcc1 hpos HX
      go_enter Tryd.func7, Tryd.ntmps7
      go_wp2_with (first
        | (go_at_call 10; rw [← HWE.out]; refine HSM.out.mono ?_; rintro e w1 ⟨rfl, hb⟩; have G1 := hideIt hb; clear hb HSM) | ((with_reducible refine at_load ?_); refine wpList_ldC (by kernel_rfl) (.tmp 3) rfl (p := w.heap.size) (c := c0) rfl (by rw [← HWE.out]; exact HBC.out.box) ?_) | ((with_reducible refine at_load ?_); refine wpList_ldC (by kernel_rfl) (.tmp 3) rfl (p := w.heap.size) (c := c0) rfl (HBC.out.keep G1.out).box ?_)
        | (go_at_call 12; refine (HPA.out _ G1.out).mono ?_; rintro e w3 ⟨F3, c3, rfl, hs3, _, hb⟩; have HS3 := hideIt hs3; have G3 := hideIt (G1.out.trans (hb.mono G1.out.size)); clear hb hs3 HPA)
        | ((with_reducible refine at_store ?_); refine wpList_put rfl _ (.tmp 7) (.tmp 21) rfl w3.heap.size [.int .i64 (k : Int), .slice F3 L.length c3] [.int .i64 0, .slice none 0 0] 30 rfl rfl (Blk.new w3 30 [.int .i64 0, .slice none 0 0]) iszP rfl (by simp [Value.oneCell']) ?_; intro w4 ht hb; have hbl := ht.below (below_new w3 (.cells #[.int .i64 0, .slice none 0 0] 30)) (Nat.le_refl _); have G4 := hideIt (G3.out.trans (hbl.mono G3.out.size)); have HP4 := hideIt hb; have hp1 : w4.cell? ⟨w3.heap.size, 1, none⟩ = some (.slice F3 L.length c3) := hb.cell 1; have HS4 := hideIt ((HS3.out.below hbl).wide hbl.size); clear ht hb hbl HS3))
      obtain ⟨p3, hp3⟩ : ∃ p, p = w3.heap.size := ⟨_, rfl⟩
      rw [← hp3] at HP4 hp1
      rw [← hp3]
      clear hp3 G1 G3 hp1
      go_loopg [6, 9, 29] L.length (fun gk s6 s9 s29 wr => ∃ i : Nat, i + gk = L.length ∧ s6 = .bool false ∧ s9 = .int .i64 (lstU L i) ∧ s29 = .int .i64 (i : Int) ∧ Aside (Below w4.heap.size w4 wr))
      case atStart => exact ⟨0, by omega, rfl, rfl, rfl, Below.refl _ _⟩
      case round =>
        obtain ⟨i, hi, rfl, rfl, rfl, HLW⟩ := hrel
        obtain ⟨w9, rfl⟩ : ∃ x, x = wr := ⟨wr, rfl⟩
        have K9 := hideIt (G4.out.trans (HLW.out.mono G4.out.size))
        by_cases hlt : i < L.length
        · have hinc := inc_c 3 i (by omega)
          have hji : (i : Int) < (L.length : Int) := by omega
          obtain ⟨g7, o7, rfl, hg7, hrg⟩ := ((HS4.out.below HLW.out).wide HLW.out.size).tr hlt
          obtain ⟨hm1, hm2, _, hm4⟩ := HG.out.mem L[i] (List.getElem_mem hlt)
          have hls := lstU_lt HG.out.inc hlt
          have HNX := hideIt (lstU_at hlt)
          have HRG := hideIt hrg
          obtain ⟨⟨tu, tc0⟩, hq⟩ : ∃ q, q = L[i] := ⟨_, rfl⟩
          rw [← hq] at hm1 hm2 hm4 hls HNX HRG
          rw [ot_getD, Bool.and_eq_true, decide_eq_true_eq, List.getD_eq_getElem?_getD, List.getElem?_eq_getElem hm1] at hm2
          obtain ⟨hm2, hm3⟩ := hm2
          have HCB := hideIt (fun (W : World) (h : Below W0.heap.size W0 W) => HC1.out W h tu hm1 hm2)
          have hti : (tu : Int) < (l1.length : Int) := by have : tu < l1.length := hm1; omega
          have hr1 : binOp .leq 3 (.int .i64 (tu : Int)) (.int .i64 (lstU L i)) = pure (.bool false) := by rw [binOp_leq, decide_eq_false (by have : lstU L i < (tu : Int) := hls; omega)]
          have hr2 : binOp .geq 3 (.int .i64 (tu : Int)) (.int .i64 (l1.length : Int)) = pure (.bool false) := by rw [binOp_geq, decide_eq_false (by omega)]
          have hr3 : binOp .eql 3 (.int .i64 (tu : Int)) (.int .i64 (k : Int)) = pure (.bool false) := by rw [i_eql, decide_eq_false (by have : tu ≠ k := hm3; omega)]
          have hr4 : binOp .eql 3 (.int .i64 (tc0 : Int)) (.int .i64 0) = pure (.bool false) := by rw [i_eql, decide_eq_false (by have : tc0 ≠ 0 := hm4; omega)]
          clear hg7 hrg hm1 hm2 hm3 hm4 hls hq
          generalize lstU L i = ls at *
          go_wp2_with (first
            | ((with_reducible refine at_load ?_); refine wpList_ldT (by kernel_rfl) (.tmp 31) rfl (t := ((tu : Int), (tc0 : Int))) rfl HRG.out ?_)
            | ((with_reducible refine at_store ?_); refine wpList_put rfl _ (.tmp 11) (.tmp 32) rfl w9.heap.size (zc ((tu : Int), (tc0 : Int))) [.int .i64 0, .int .i64 0] 54 rfl rfl (Blk.new w9 54 [.int .i64 0, .int .i64 0]) isz2 rfl (by simp [Value.oneCell']) ?_; intro w8 ht8 hb8; have e0 : w8.cell? ⟨w9.heap.size, 0, none⟩ = some (.int .i64 (tu : Int)) := hb8.cell 0; have e1 : w8.cell? ⟨w9.heap.size, 1, none⟩ = some (.int .i64 (tc0 : Int)) := hb8.cell 1; have hL8 := ht8.below (HLW.out.trans ((below_new w9 (.cells #[.int .i64 0, .int .i64 0] 54)).mono HLW.out.size)) HLW.out.size; have HL8 := hideIt hL8; have e2 := HCB.out _ (G4.out.trans (hL8.mono G4.out.size)); clear ht8 hb8 hL8 HCB))
          go_roundg (gk - 1)
          case measure => omega
          case rel => exact ⟨i + 1, by omega, rfl, by rw [HNX.out], by go_num, HL8.out⟩
        · have hji : ¬ (i : Int) < (L.length : Int) := by omega
          generalize lstU L i = ls at *
          go_wp2_with (go_at_call 11; refine (HSA.out _ K9.out).mono ?_; rintro e w10 ⟨rfl, hb⟩; have hb4 := HLW.out.trans (hb.mono HLW.out.size); have K10 := hideIt (K9.out.trans (hb.mono K9.out.size)); have e0 : w10.cell? ⟨p3, 0, none⟩ = some (.int .i64 (k : Int)) := (HP4.out.kept hb4 HP4.out.lt).cell 0; have e1 : w10.cell? ⟨p3, 1, none⟩ = some (.slice F3 L.length c3) := (HP4.out.kept hb4 HP4.out.lt).cell 1; have e2 := (HBC.out.keep K10.out).c2; clear hb hb4 HSA)
          go_ret
          exact ⟨rfl, HB0.out.trans (K10.out.mono HB0.out.size)⟩
    · have hne : binOp .neq 31 (.int .i64 er) (.int .i64 0) = pure (.bool true) := by rw [i_neq, decide_eq_true he0]
      clear hsm hr hS he0
      go_enter Tryd.func7, Tryd.ntmps7
      go_wp2_with (first
        | (go_at_call 10; rw [← HWE.out]; refine HSM.out.mono ?_; rintro e w1 ⟨rfl, hb⟩; have G1 := hideIt hb; clear hb HSM) | ((with_reducible refine at_load ?_); refine wpList_ldC (by kernel_rfl) (.tmp 3) rfl (p := w.heap.size) (c := c0) rfl (by rw [← HWE.out]; exact HBC.out.box) ?_) | ((with_reducible refine at_load ?_); refine wpList_ldC (by kernel_rfl) (.tmp 3) rfl (p := w.heap.size) (c := c0) rfl (HBC.out.keep G1.out).box ?_)
        | (go_at_call 12; refine (HPA.out _ G1.out).mono ?_; rintro e w3 ⟨F3, c3, rfl, _, _, hb⟩; have G3 := hideIt (G1.out.trans (hb.mono G1.out.size)); clear hb HPA)
        | ((with_reducible refine at_store ?_); refine wpList_put rfl _ (.tmp 7) (.tmp 21) rfl w3.heap.size [.int .i64 pu, .slice F3 L.length c3] [.int .i64 0, .slice none 0 0] 30 rfl rfl (Blk.new w3 30 [.int .i64 0, .slice none 0 0]) iszP rfl (by simp [Value.oneCell']) ?_; intro w4 ht hb; have hbl := ht.below (below_new w3 (.cells #[.int .i64 0, .slice none 0 0] 30)) (Nat.le_refl _); have G4 := hideIt (G3.out.trans (hbl.mono G3.out.size)); clear ht hb hbl)
        | (go_at_call 11; refine (HSA.out _ G4.out).mono ?_; rintro e w5 ⟨rfl, hb⟩; have G5 := hideIt (G4.out.trans (hb.mono G4.out.size)); clear hb HSA))
      go_ret
      exact ⟨rfl, HB0.out.trans (G5.out.mono HB0.out.size)⟩
  · have hf : smB a0 = false := Bool.eq_false_iff.2 hsm
    rw [hf] at HSM
    clear hsm hf
    go_enter Tryd.func7, Tryd.ntmps7
    go_wp2_with (first | (go_at_call 10; rw [← HWE.out]; refine HSM.out.mono ?_; rintro e w1 ⟨rfl, hb⟩; have G1 := hideIt hb; clear hb HSM) | ((with_reducible refine at_load ?_); refine wpList_ldC (by kernel_rfl) (.tmp 3) rfl (p := w.heap.size) (c := c0) rfl (by rw [← HWE.out]; exact HBC.out.box) ?_) | (go_at_call 11; refine (HSA.out _ G1.out).mono ?_; rintro e w2 ⟨rfl, hb⟩; have G2 := hideIt (G1.out.trans (hb.mono G1.out.size)); clear hb HSA))
    go_ret
    exact ⟨rfl, HB0.out.trans (G2.out.mono HB0.out.size)⟩

end Go.Proofs.YtklngodlijiccaaDoor.repairReadsPresent
