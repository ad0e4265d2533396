/-
  The reference's beside, walked.
  What the reference's Solve keeps while its rows are reduced; a drawn region with two operations that may come next.
-/
import Derived.Test.YtodmcojcmihooaaDoorRefRk
import Derived.Test.YtodmcojcmihooaaDoorMatSo
import Derived.Deep.DeepCutAuto
namespace Go.Proofs.YtodmcojcmihooaaDoor
open Go.RowKit
set_option linter.unusedVariables false

/-- A matrix while it is laid out. -/
def bsK (S : Mx) (i j : Nat) : Mx := fun r q => if r < i ∨ (r = i ∧ q < j) then S r q else 0
theorem bsK_next (S : Mx) (i j x : Nat) (hx : x = S i j) : upd2 (bsK S i j) i j x = bsK S i (j + 1) := by
  funext r q
  unfold upd2 bsK
  subst hx
  by_cases e : r = i ∧ q = j
  · rw [if_pos e, if_pos (by omega), e.1, e.2]
  · rw [if_neg e]
    by_cases e2 : r < i ∨ (r = i ∧ q < j)
    · rw [if_pos e2, if_pos (by omega)]
    · rw [if_neg e2, if_neg (by omega)]
theorem bsK_row (S : Mx) (i : Nat) {n : Nat} (r q : Nat) (hq : q < n) : bsK S i n r q = bsK S (i + 1) 0 r q := by
  unfold bsK
  by_cases e : r < i + 1
  · rw [if_pos (by omega), if_pos (by omega)]
  · rw [if_neg (by omega), if_neg (by omega)]
theorem side_l {C : Nat} {E E2 : Mx} {i j : Nat} (h : j < C) : E i j = sideM C E E2 i j := by unfold sideM cat2; rw [if_pos h]
theorem side_r (C : Nat) (E E2 : Mx) (i j : Nat) : E2 i j = sideM C E E2 i (C + j) := by
  unfold sideM cat2; rw [if_neg (by omega)]
  rw [show C + j - C = j by omega]

set_option maxHeartbeats 2000000 in
set_option maxRecDepth 100000 in
theorem rside_any (m R C C2 : Nat) (E E2 : Mx) (hR : R ≤ 40) (hC : C ≤ 40) (hC2 : C2 ≤ 40) (A B : Option Addr) (ca cb : Nat) (w : World) (hsa : MIn w (mkM m R C E) A ca) (hsb : MIn w (mkM m R C2 E2) B cb) :
    Calls Tryd.prog 47 #[mtV (m : Int) (R : Int) (C : Int) (.slice A (R * C) ca), mtV (m : Int) (R : Int) (C2 : Int) (.slice B (R * C2) cb)] w fun e w' => ∃ D c, e = .returned (mtV (m : Int) (R : Int) ((C + C2 : Nat) : Int) (.slice D (R * (C + C2)) c)) ∧ MIn w' (mkM m R (C + C2) (sideM C E E2)) D c ∧ Below w.heap.size w w' := by
  obtain ⟨ba, oa, hIA, hba0⟩ := mk_cell hsa
  obtain ⟨bb, ob, hIB, hbb0⟩ := mk_cell hsb
  have hcapa := hsa.cap
  have hcapb := hsb.cap
  rw [mk_len] at hcapa
  rw [mk_len] at hcapb
  obtain ⟨n, hn⟩ : ∃ n, n = C + C2 := ⟨_, rfl⟩
  rw [← hn]
  have hRC : R * C ≤ 40 * 40 := Nat.mul_le_mul hR hC
  have hRC2 : R * C2 ≤ 40 * 40 := Nat.mul_le_mul hR hC2
  have hnl : n ≤ 80 := by omega
  have hRN : R * n ≤ 40 * 80 := Nat.mul_le_mul hR hnl
  have hCC : binOp .add 3 (.int .i64 (C : Int)) (.int .i64 (C2 : Int)) = pure (.int .i64 (n : Int)) := by rw [hn]; exact nadd 3 C C2 (by omega)
  obtain ⟨S, hS⟩ : ∃ S, S = sideM C E E2 := ⟨_, rfl⟩
  have HSL := hideIt (fun i j (h : j < C) => show E i j = S i j by rw [hS]; exact side_l h)
  have HSR := hideIt (fun i j => show E2 i j = S i (C + j) by rw [hS]; exact side_r C E E2 i j)
  rw [← hS]
  obtain ⟨w1, hw1⟩ : ∃ w1, w1 = ((w.alloc (.cells #[.int .i64 (m : Int), .int .i64 (R : Int), .int .i64 (C : Int), .slice A (R * C) ca] 24)).alloc (.cells #[.int .i64 (m : Int), .int .i64 (R : Int), .int .i64 (C2 : Int), .slice B (R * C2) cb] 24)).alloc (.cells #[.int .i64 0, .int .i64 0, .int .i64 0, .slice none 0 0] 24) := ⟨_, rfl⟩
  have hw01 : Below w.heap.size w w1 := by rw [hw1]; exact (((Below.refl _ w).alloc (Nat.le_refl _) _).alloc (by simp) _).alloc (by simp; omega) _
  have hba : Blk w1 w.heap.size 24 (mtC (m : Int) (R : Int) (C : Int) (.slice A (R * C) ca)) := by rw [hw1]; exact ((Blk.new w _ _).alloc _).alloc _
  have hbb : Blk w1 (w.heap.size + 1) 24 (mtC (m : Int) (R : Int) (C2 : Int) (.slice B (R * C2) cb)) := by rw [hw1]; exact (Blk.new2 w _ _ _).alloc _
  have hpr : Blk w1 (w.heap.size + 1 + 1) 24 (mtC 0 0 0 (.slice none 0 0)) := by
    rw [hw1]
    have h := Blk.new ((w.alloc (.cells #[.int .i64 (m : Int), .int .i64 (R : Int), .int .i64 (C : Int), .slice A (R * C) ca] 24)).alloc (.cells #[.int .i64 (m : Int), .int .i64 (R : Int), .int .i64 (C2 : Int), .slice B (R * C2) cb] 24)) 24 (mtC 0 0 0 (.slice none 0 0))
    rw [World.size_alloc, World.size_alloc] at h
    exact h
  have HW1 := hideIt hw1
  have HW01 := hideIt hw01
  have HBA := hideIt hba
  have HBB := hideIt hbb
  have HPR := hideIt hpr
  have HIA := hideIt hIA
  have HIB := hideIt hIB
  have HBA0 := hideIt hba0
  have HBB0 := hideIt hbb0
  have HZS := hideIt (fun W => rzeros_any m R n hR hnl W)
  have HN := hideIt hn
  have a0 := hba.cell 0
  have a1 := hba.cell 1
  have a2 := hba.cell 2
  have b2 := hbb.cell 2
  clear hw1 hw01 hba hbb hpr hsa hsb hIA hIB hba0 hbb0 hS hn
  go_enter Tryd.func47, Tryd.ntmps47
  go_wp2_with fail
  rw [← HW1.out]
  go_wp2_with (go_at_call 38; refine (HZS.out _).mono ?_; rintro e w5 ⟨gp, rfl, hg, hc, hb5⟩; have HMK := hideIt (Mk.start (m := m) HW01.out HPR.out (by omega) hb5 hg hc rfl); have HB5 := hideIt hb5; have HG := hideIt hg; clear hg hc hb5)
  obtain ⟨w6, hw6⟩ : ∃ w6, w6 = w5.alloc (.cells #[.int .i64 (m : Int), .int .i64 (R : Int), .int .i64 (n : Int), .slice (some ⟨gp, 0, none⟩) (R * n) (R * n)] 24) := ⟨_, rfl⟩
  obtain ⟨p6, hp6⟩ : ∃ p6, p6 = w5.heap.size := ⟨_, rfl⟩
  rw [← hw6, ← hp6]
  have HM0 : Hid (Mk w w6 (w.heap.size + 1 + 1) p6 gp m R n w6 (fun _ _ => 0)) := by rw [hw6, hp6]; exact HMK.out
  have HG0 := hideIt (show Below w1.heap.size w1 w6 by rw [hw6]; exact HB5.out.alloc HB5.out.size _)
  have HARA := hideIt (ArgM.start HIA.out HBA0.out hcapa HBA.out HM0.out.w06 HG0.out HG.out HM0.out.gl0)
  have HARB := hideIt (ArgM.start HIB.out HBB0.out hcapb HBB.out HM0.out.w06 HG0.out HG.out HM0.out.gl0)
  clear hw6 hp6 HMK HB5 HG HG0 HIA HIB HBA0 HBB0 HBA HBB HPR HW01 HW1 HZS a0 a1 a2 b2 hcapa hcapb hCC
  go_loopg [6] R (fun gk s6 wr => ∃ i : Nat, i + gk = R ∧ s6 = .int .i64 (i : Int) ∧ Aside (Mk w w6 (w.heap.size + 1 + 1) p6 gp m R n wr (bsK S i 0)))
  case atStart => exact ⟨0, by omega, rfl, HM0.out.congr (fun i j _ _ => by unfold bsK; rw [if_neg (by omega)])⟩
  case round =>
    obtain ⟨i, hi, rfl, HI⟩ := hrel
    have a1 := (HARA.out.sel HI.out.sel).box.cell 1
    by_cases hlt : i < R
    · have hinc := inc_c 3 i (by omega)
      have hiR : (i : Int) < (R : Int) := by omega
      have HMI := hideIt HI.out
      clear HI HM0
      obtain ⟨g1, rfl⟩ : ∃ x, x = gk := ⟨gk, rfl⟩
      go_wp2_with fail
      clear a1
      go_loopg [7] C (fun gk s7 wr => ∃ j : Nat, j + gk = C ∧ s7 = .int .i64 (j : Int) ∧ Aside (Mk w w6 (w.heap.size + 1 + 1) p6 gp m R n wr (bsK S i j)))
      case atStart => exact ⟨0, by omega, rfl, HMI.out⟩
      case round =>
        obtain ⟨j, hj, rfl, HJ⟩ := hrel
        have a2 := (HARA.out.sel HJ.out.sel).box.cell 2
        by_cases hltj : j < C
        · have hincj := inc_c 3 j (by omega)
          have hjC : (j : Int) < (C : Int) := by omega
          have hjn : j < n := by have := HN.out; omega
          have hAI := (HARA.out.sel HJ.out.sel).ints
          have hl1 := ix_lt hlt hltj
          have hl2 := ix_lt hlt hjn
          have hA := hAI.adr (by omega)
          have hc1 := hAI.cell (i * C + j) hl1
          rw [gl_at E hltj] at hc1
          subst hA
          have a3 := (HARA.out.sel HJ.out.sel).box.cell 3
          have b2 := HJ.out.box.cell 2
          have b3 := HJ.out.box.cell 3
          obtain ⟨hc2, hf2⟩ := HJ.out.cell (i := i) (j := j) hlt hjn
          have hm1 := nmul 3 i C (by omega)
          have hm2 := nmul 3 i n (by omega)
          have hd1 := nadd 3 (i * C) j (by omega)
          have hd2 := nadd 3 (i * n) j (by omega)
          have hli1 : ((i * C + j : Nat) : Int) < ((R * C : Nat) : Int) := by omega
          have hli2 : ((i * n + j : Nat) : Int) < ((R * n : Nat) : Int) := by omega
          have HST := hideIt ((HJ.out.below (Below.refl _ wr).drew).store (x := E i j) hlt hjn)
          have HNX := hideIt (bsK_next S i j (E i j) (HSL.out i j hltj))
          clear HJ hAI hl1 hl2 HMI
          generalize E i j = x at hc1 HST HNX
          generalize bsK S i j i j = y0 at hc2
          generalize i * C + j = y1 at *
          generalize i * n + j = y2 at *
          generalize i * C = y3 at *
          generalize i * n = y4 at *
          generalize R * C = n1 at *
          generalize R * n = n2 at *
          go_wp2_with fail
          refine still_tail 19 (by kernel_rfl) (by kernel_rfl) ?_
          intro w3 hw3
          have k0 : w3.cell? ⟨ba, oa + y1, none⟩ = some (.int .i64 (x : Int)) := by rw [hw3]; exact hc1
          have k2 : w3.cell? ⟨w.heap.size, 2, none⟩ = some (.int .i64 (C : Int)) := by rw [hw3]; exact a2
          have k3 : w3.cell? ⟨w.heap.size, 3, none⟩ = some (.slice (some ⟨ba, oa, none⟩) n1 ca) := by rw [hw3]; exact a3
          have l2 : w3.cell? ⟨p6, 2, none⟩ = some (.int .i64 (n : Int)) := by rw [hw3]; exact b2
          have l3 : w3.cell? ⟨p6, 3, none⟩ = some (.slice (some ⟨gp, 0, none⟩) n2 n2) := by rw [hw3]; exact b3
          have l4 : w3.cell? ⟨gp, y2, none⟩ = some (.int .i64 (y0 : Int)) := by rw [hw3]; exact hc2
          have l5 : w3.frozen? ⟨gp, y2, none⟩ = false := by rw [hw3]; exact hf2
          rw [← hw3] at HST
          clear hc1 a2 a3 b2 b3 hc2 hf2 hw3
          simp only [List.take_succ_cons, List.take_zero, List.drop_succ_cons, List.drop_zero]
          repeat still_step
          refine wpStill_nil ?_
          go_wp2_with fail
          go_roundg (gk - 1)
          case measure => omega
          case rel => exact ⟨j + 1, by omega, by go_num, by have h := HST.out; rw [HNX.out] at h; exact h⟩
        · have hjC : ¬ (j : Int) < (C : Int) := by omega
          obtain rfl : j = C := by omega
          have HMJ := hideIt HJ.out
          clear HJ HMI
          go_wp2_with fail
          clear a2
          go_loopg [8] C2 (fun gk s8 wr => ∃ q : Nat, q + gk = C2 ∧ s8 = .int .i64 (q : Int) ∧ Aside (Mk w w6 (w.heap.size + 1 + 1) p6 gp m R n wr (bsK S i (j + q))))
          case atStart => exact ⟨0, by omega, rfl, HMJ.out⟩
          case round =>
            obtain ⟨q, hq, rfl, HQ⟩ := hrel
            have a2 := (HARB.out.sel HQ.out.sel).box.cell 2
            by_cases hltq : q < C2
            · have hincq := inc_c 3 q (by omega)
              have hqC : (q : Int) < (C2 : Int) := by omega
              have hqn : j + q < n := by have := HN.out; omega
              have hBI := (HARB.out.sel HQ.out.sel).ints
              have hl1 := ix_lt hlt hltq
              have hl2 := ix_lt hlt hqn
              have hB := hBI.adr (by omega)
              have hc1 := hBI.cell (i * C2 + q) hl1
              rw [gl_at E2 hltq] at hc1
              subst hB
              have a2a := (HARA.out.sel HQ.out.sel).box.cell 2
              have a3 := (HARB.out.sel HQ.out.sel).box.cell 3
              have b2 := HQ.out.box.cell 2
              have b3 := HQ.out.box.cell 3
              obtain ⟨hc2, hf2⟩ := HQ.out.cell (i := i) (j := j + q) hlt hqn
              have hm1 := nmul 3 i C2 (by omega)
              have hm2 := nmul 3 i n (by omega)
              have hd1 := nadd 3 (i * C2) q (by omega)
              have hd2 := nadd 3 (i * n) j (by omega)
              have hd3 := nadd 3 (i * n + j) q (by omega)
              have hli1 : ((i * C2 + q : Nat) : Int) < ((R * C2 : Nat) : Int) := by omega
              have hli2 : ((i * n + j + q : Nat) : Int) < ((R * n : Nat) : Int) := by omega
              have HST := hideIt ((HQ.out.below (Below.refl _ wr).drew).store (x := E2 i q) hlt hqn)
              have HNX := hideIt (bsK_next S i (j + q) (E2 i q) (HSR.out i q))
              rw [← Nat.add_assoc] at hc2 hf2 HST
              clear HQ hBI hl1 hl2 HMJ
              generalize E2 i q = x at hc1 HST HNX
              generalize bsK S i (j + q) i (j + q) = y0 at hc2
              generalize i * C2 + q = y1 at *
              generalize i * n + j + q = y2 at *
              generalize i * n + j = y5 at *
              generalize i * C2 = y3 at *
              generalize i * n = y4 at *
              generalize R * C2 = n1 at *
              generalize R * n = n2 at *
              go_wp2_with fail
              refine still_tail 22 (by kernel_rfl) (by kernel_rfl) ?_
              intro w3 hw3
              have k0 : w3.cell? ⟨bb, ob + y1, none⟩ = some (.int .i64 (x : Int)) := by rw [hw3]; exact hc1
              have k2 : w3.cell? ⟨w.heap.size + 1, 2, none⟩ = some (.int .i64 (C2 : Int)) := by rw [hw3]; exact a2
              have k22 : w3.cell? ⟨w.heap.size, 2, none⟩ = some (.int .i64 (j : Int)) := by rw [hw3]; exact a2a
              have k3 : w3.cell? ⟨w.heap.size + 1, 3, none⟩ = some (.slice (some ⟨bb, ob, none⟩) n1 cb) := by rw [hw3]; exact a3
              have l2 : w3.cell? ⟨p6, 2, none⟩ = some (.int .i64 (n : Int)) := by rw [hw3]; exact b2
              have l3 : w3.cell? ⟨p6, 3, none⟩ = some (.slice (some ⟨gp, 0, none⟩) n2 n2) := by rw [hw3]; exact b3
              have l4 : w3.cell? ⟨gp, y2, none⟩ = some (.int .i64 (y0 : Int)) := by rw [hw3]; exact hc2
              have l5 : w3.frozen? ⟨gp, y2, none⟩ = false := by rw [hw3]; exact hf2
              rw [← hw3] at HST
              clear hc1 a2 a2a a3 b2 b3 hc2 hf2 hw3
              simp only [List.take_succ_cons, List.take_zero, List.drop_succ_cons, List.drop_zero]
              repeat still_step
              refine wpStill_nil ?_
              go_wp2_with fail
              go_roundg (gk - 1)
              case measure => omega
              case rel => exact ⟨q + 1, by omega, by go_num, by have h := HST.out; rw [HNX.out] at h; exact h⟩
            · have hqC : ¬ (q : Int) < (C2 : Int) := by omega
              obtain rfl : q = C2 := by omega
              have HMQ := hideIt (HQ.out.congr (N := bsK S (i + 1) 0) (fun r q hr hq => by rw [← HN.out]; exact bsK_row S i r q hq))
              clear HQ HMJ
              go_wp2_with fail
              go_roundg (g1 - 1)
              case measure => omega
              case rel => exact ⟨i + 1, by omega, by go_num, HMQ.out⟩
    · have hiR : ¬ (i : Int) < (R : Int) := by omega
      obtain rfl : i = R := by omega
      have HMI := hideIt (HI.out.congr (N := S) (fun r q hr hq => by unfold bsK; rw [if_pos (Or.inl hr)]))
      clear HI HM0
      go_wp2_with (first
        | ((with_reducible refine at_load ?_); refine wpList_ldM rfl (.tmp 5) rfl p6 _ _ _ _ rfl HMI.out.box ?_)
        | ((with_reducible refine at_store ?_); refine wpList_stM rfl (.tmp 4) (.tmp 78) rfl (w.heap.size + 1 + 1) _ _ _ _ _ _ _ _ rfl rfl rfl HMI.out.res ?_; intro w8 HT8 HB8))
      refine bodyPost_ret (ret_blk rfl HB8.out _ rfl Tryd.underlying24 rfl isz4) rfl ?_
      have hcl : Blk w8 gp 3 ((nl (i * n) (gl n S)).map iv) := HT8.out.blk HMI.out.cells (Ne.symm HMI.out.ne1)
      have ho : w8.ownsRow w8.heap.size 3 1 (.slice none 0 0) 0 [] := World.ownsRow_nil _ _ _ _
      refine ⟨some ⟨gp, 0, none⟩, i * n, rfl, ?_, HT8.out.below HMI.out.low HMI.out.prl⟩
      have hb := own_of_blk (base := w.heap.size) hcl HMI.out.gl0 (by rw [List.length_map, nl_len]) (by unfold maxLen; omega)
      obtain ⟨A2, c2, h1, h2⟩ := MRes.min (a := mkM m i n S) (s := .slice (some ⟨gp, 0, none⟩) (i * n) (i * n)) (w := w) (W := w8) (by rw [mk_len]; exact hb)
      rw [mk_len] at h1
      injection h1 with e1 e2 e3
      subst e1 e3
      exact h2

section
variable {P : Program} {md : Region.Mode} {ops : Array Oper} {Q : Exit → Act → World → Prop} {L : List (Nat × (World → Prop))}
theorem wpOp_of_list {i : Nat} {o : Oper} {K1 : Act → World → Prop} {a : Act} {w : World} (ho : ops[i]? = some o) (h1 : wpList P ops (Exit.then K1 Q) [o] a w) : wpOp P ops Q i K1 a w := by
  unfold wpOp
  simp only [ho]
  unfold wpList at h1
  split
  · rename_i hw
    rw [if_pos hw] at h1
    rcases h1 with h1 | ⟨h1, a0, w0, h2⟩
    · refine .inl ?_
      unfold Oper.wp at h1 ⊢
      generalize (execOp a.eval o).run P w = r at h1 ⊢
      cases r with
      | ok n w' =>
        cases n <;> simp only [Oper.upon] at h1 ⊢
        case value u => exact h1
        case skip => exact h1
        case defer d => exact h1
        case enter f args =>
          refine Calls.mono h1 fun e w'' he => ?_
          cases e <;> exact he
        case row row args => exact h1
      | halt x w' =>
        cases x <;> simp only [Oper.upon] at h1 ⊢
        case panic u => exact h1
    · exact .inr ⟨h1, a0, w0, h2⟩
  · rename_i hw
    rw [if_neg hw] at h1
    exact h1
theorem wpAnyL_two (i j : Nat) {oi oj : Oper} {fuel : Nat} {listed : Array Bool} {a : Act} {w : World} (hr : Region.ready md ops listed = [i, j]) (hi : ops[i]? = some oi) (hj : ops[j]? = some oj)
    (h1 : ∀ K : Act → World → Prop, (∀ a' w', Hooks L (listed.setIfInBounds i true) w' → wpAnyL P md ops Q L fuel (listed.setIfInBounds i true) a' w' → K a' w') → wpList P ops (Exit.then K Q) [oi] a w)
    (h2 : ∀ K : Act → World → Prop, (∀ a' w', Hooks L (listed.setIfInBounds j true) w' → wpAnyL P md ops Q L fuel (listed.setIfInBounds j true) a' w' → K a' w') → wpList P ops (Exit.then K Q) [oj] a w) : wpAnyL P md ops Q L (fuel + 1) listed a w := by
  refine ⟨fun h0 => (by rw [hr] at h0; cases h0), fun k hk => ?_⟩
  rw [hr] at hk
  rcases List.mem_cons.1 hk with e | hk
  · subst e
    exact wpOp_of_list hi (h1 _ (fun a' w' p q => ⟨p, q⟩))
  · rw [List.mem_singleton] at hk
    subst hk
    exact wpOp_of_list hj (h2 _ (fun a' w' p q => ⟨p, q⟩))
end

/-- What Reduce hands over. -/
theorem RRes.rj {W w' : World} {m R n p : Nat} {M : Mx} {pv : List Nat} {e : Ending} (h : RRes W (mkM m R n M) pv e w') (hp : p = pv.length) : ∃ A3 c3 A2 c2 bs bv, e = .returned (.tuple #[mtV (m : Int) (R : Int) (n : Int) (.slice A3 (R * n) c3), .slice A2 p c2]) ∧
    (Ints w' A3 bs 0 (R * n) (gl n M) ∧ (0 < R * n → W.heap.size ≤ bs) ∧ R * n ≤ c3 ∧ Ints w' A2 bv 0 p (fun k => pv.getD k 0) ∧ (0 < p → W.heap.size ≤ bv)) ∧ Below W.heap.size W w' := by
  obtain ⟨A3, c3, A2, c2, he, ho, h1, h2, hv, h3, h4, hb⟩ := h.mk
  obtain ⟨bs, hI, hl⟩ := own_ints ho
  obtain ⟨bv, hIv, hlv⟩ := own_ints hv
  subst hp
  exact ⟨A3, c3, A2, c2, bs, bv, he, ⟨hI, fun h0 => (hl h0).1, h1, hIv, fun h0 => (hlv h0).1⟩, hb⟩
/-- The reduced matrix in its box, and the pivots. -/
structure SJ (w3 : World) (m R n p : Nat) (M : Mx) (pv : List Nat) (A2 : Option Addr) (p8 : Nat) (W : World) : Prop where
  low : Below w3.heap.size w3 W
  p8l : w3.heap.size ≤ p8
  box : ∃ A3 c3 bs, Blk W p8 24 (mtC (m : Int) (R : Int) (n : Int) (.slice A3 (R * n) c3)) ∧ Ints W A3 bs 0 (R * n) (gl n M) ∧ R * n ≤ c3
  piv : ∃ bv, Ints W A2 bv 0 p (fun k => pv.getD k 0)
theorem Ints.turn {w w' : World} {A : Option Addr} {b o n g : Nat} {f : Nat → Nat} (h : Ints w A b o n f) (ht : Turned g w w') (hs : w.heap.size ≤ w'.heap.size) (hn : 0 < n → b ≠ g) : Ints w' A b o n f :=
  ⟨h.adr, fun h0 => Nat.lt_of_lt_of_le (h.lt h0) hs, fun j hj => (ht.cell (hn (by omega))).trans (h.cell j hj)⟩
theorem SJ.mk' {w3 W5 W9 : World} {m R n p p8 bs bv c3 : Nat} {M : Mx} {pv : List Nat} {A2 A3 : Option Addr} (h1 : Ints W5 A3 bs 0 (R * n) (gl n M)) (h2 : 0 < R * n → bs ≠ p8) (h3 : R * n ≤ c3) (h4 : Ints W5 A2 bv 0 p (fun k => pv.getD k 0)) (h5 : 0 < p → bv ≠ p8)
    (hl : Below w3.heap.size w3 W5) (hp : w3.heap.size ≤ p8) (ht : Turned p8 W5 W9) (hb : Blk W9 p8 24 (mtC (m : Int) (R : Int) (n : Int) (.slice A3 (R * n) c3))) : SJ w3 m R n p M pv A2 p8 W9 := by
  have h9 := ht.below (Below.refl 0 W5) (Nat.zero_le _)
  exact ⟨ht.below hl hp, hp, ⟨A3, c3, bs, hb, h1.turn ht h9.size h2, h3⟩, ⟨bv, h4.turn ht h9.size h5⟩⟩

end Go.Proofs.YtodmcojcmihooaaDoor
