/-
  Mul, walked.
-/
import Derived.Test.YtodmcojcmihooaaDoorMatC
namespace Go.Proofs.YtodmcojcmihooaaDoor
open Go.RowKit
set_option linter.unusedVariables false

/-- What Mul answers. -/
def mulM (a b : Mt) : Mt × Int := if vM a = true ∧ vM b = true ∧ a.F = b.F ∧ a.C = b.R then (mkM a.F.toNat a.R.toNat b.C.toNat (mm a.F.toNat a.C.toNat a.e b.e), 0) else (zeroM, 1)
/-- The product while it is made: i rows, and j terms of the next. -/
def mmK (m n : Nat) (A B : Mx) (i j : Nat) : Mx := fun r q => if r < i then mm m n A B r q else if r = i then mm m j A B r q else 0
theorem mmK_next {m : Nat} (hm : Fm m) (C : Nat) {A B : Mx} (hA : Vm m A) (hB : Vm m B) (i j n : Nat) (r q : Nat) : (if r = i then mmK m n A B i j i q ^^^ mul m (B j q) (A i j) else mmK m n A B i j r q) = mmK m n A B i (j + 1) r q := by
  unfold mmK
  by_cases e : r = i
  · subst e
    rw [if_pos rfl, if_neg (by omega), if_pos rfl, if_neg (by omega), if_pos rfl]
    show sm j (fun k => mul m (A r k) (B k q)) ^^^ mul m (B j q) (A r j) = sm j (fun k => mul m (A r k) (B k q)) ^^^ mul m (A r j) (B j q)
    rw [mul_comm hm (hB j q) (hA r j)]
  · rw [if_neg e, if_neg e, if_neg e]
theorem mmK_row (m n : Nat) (A B : Mx) (i r q : Nat) : mmK m n A B i n r q = mmK m n A B (i + 1) 0 r q := by
  unfold mmK
  by_cases e : r < i
  · rw [if_pos e, if_pos (by omega)]
  · rw [if_neg e]
    by_cases e2 : r = i
    · rw [if_pos e2, if_pos (by omega)]
    · rw [if_neg e2, if_neg (by omega)]
      split <;> rfl
theorem mmK_v {m : Nat} (hm : Fm m) {A B : Mx} (hA : Vm m A) (n i j r q : Nat) : mmK m n A B i j r q < 2 ^ m := by
  unfold mmK
  split
  · exact mm_v hm hA r q
  · split
    · exact mm_v hm hA r q
    · exact Nat.two_pow_pos m

set_option maxHeartbeats 2000000 in
set_option maxRecDepth 100000 in
theorem mul6_any (a b : Mt) (A B : Option Addr) (ca cb : Nat) (w : World) (hT : Tabs w) (hsa : MIn w a A ca) (hsb : MIn w b B cb) :
    Calls Tryd.prog 12 #[mtV a.F a.R a.C (.slice A a.l.length ca), mtV b.F b.R b.C (.slice B b.l.length cb)] w (MRes w (mulM a b)) := by
  have HVA := hideIt (mvalid_b hT hsa)
  have HVB := hideIt (mvalid_b hT hsb)
  obtain ⟨r, hr⟩ : ∃ r, r = mulM a b := ⟨_, rfl⟩
  rw [← hr]
  have HR := hideIt hr
  clear hr
  by_cases hva : vM a = true
  · by_cases hvb : vM b = true
    · by_cases hF : a.F = b.F
      · by_cases hC : a.C = b.R
        · rw [hva] at HVA
          rw [hvb] at HVB
          obtain ⟨m, R, C, hm, hRl, hCl, hE, ha⟩ := vM_is hva
          obtain ⟨m2, R2, C2, hm2, hRl2, hCl2, hE2, hb⟩ := vM_is hvb
          have HR2 : Hid (r = (mkM a.F.toNat a.R.toNat b.C.toNat (mm a.F.toNat a.C.toNat a.e b.e), 0)) := hideIt (by rw [HR.out]; unfold mulM; rw [if_pos ⟨hva, hvb, hF, hC⟩])
          generalize a.e = E at ha hE HR2
          generalize b.e = E2 at hb hE2 HR2
          subst ha
          subst hb
          have e1 : m = m2 := Int.ofNat.inj hF
          have e2 : C = R2 := Int.ofNat.inj hC
          subst e1 e2
          obtain ⟨ba, oa, hIA, hba0⟩ := mk_cell hsa
          obtain ⟨bb, ob, hIB, hbb0⟩ := mk_cell hsb
          have hcapa := hsa.cap
          have hcapb := hsb.cap
          rw [mk_len] at HVA hcapa
          rw [mk_len] at HVB hcapb
          rw [mk_len, mk_len]
          change Hid (r = (mkM ((m : Int)).toNat ((R : Int)).toNat ((C2 : Int)).toNat (mm ((m : Int)).toNat ((C : Int)).toNat E E2), 0)) at HR2
          rw [Int.toNat_natCast, Int.toNat_natCast, Int.toNat_natCast, Int.toNat_natCast] at HR2
          have HIA := hideIt hIA
          have HIB := hideIt hIB
          have HBA0 := hideIt hba0
          have HBB0 := hideIt hbb0
          have HE := hideIt hE
          have HE2 := hideIt hE2
          have HM := hideIt hm
          have HTT := hideIt hT
          have HZS := hideIt (fun W => zeros_any m R C2 (by omega) (by omega) W)
          have hq1 := int_neqF6 3 (a := (m : Int)) rfl
          have hq2 := int_neqF6 3 (a := (C : Int)) rfl
          clear hva hvb hF hC hsa hsb hT HR hIA hIB hba0 hbb0 hE hE2 hm hm2 hRl2
          show Calls Tryd.prog 12 #[mtV (m : Int) (R : Int) (C : Int) (.slice A (R * C) ca), mtV (m : Int) (C : Int) (C2 : Int) (.slice B (C * C2) cb)] w _
          change Hid (∀ W, Below w.heap.size w W → Calls Tryd.prog 21 #[mtV (m : Int) (R : Int) (C : Int) (.slice A (R * C) ca)] W fun e w' => e = .returned (.bool true) ∧ Below W.heap.size W w') at HVA
          change Hid (∀ W, Below w.heap.size w W → Calls Tryd.prog 21 #[mtV (m : Int) (C : Int) (C2 : Int) (.slice B (C * C2) cb)] W fun e w' => e = .returned (.bool true) ∧ Below W.heap.size W w') at HVB
          obtain ⟨w1, hw1⟩ : ∃ w1, w1 = ((w.alloc (.cells #[.int .i64 (m : Int), .int .i64 (R : Int), .int .i64 (C : Int), .slice A (R * C) ca] 24)).alloc (.cells #[.int .i64 (m : Int), .int .i64 (C : Int), .int .i64 (C2 : Int), .slice B (C * C2) cb] 24)).alloc (.cells #[.int .i64 0, .int .i64 0, .int .i64 0, .slice none 0 0] 24) := ⟨_, rfl⟩
          have hw01 : Below w.heap.size w w1 := by rw [hw1]; exact (((Below.refl _ w).alloc (Nat.le_refl _) _).alloc (by simp) _).alloc (by simp; omega) _
          have hba : Blk w1 w.heap.size 24 (mtC (m : Int) (R : Int) (C : Int) (.slice A (R * C) ca)) := by rw [hw1]; exact ((Blk.new w _ _).alloc _).alloc _
          have hbb : Blk w1 (w.heap.size + 1) 24 (mtC (m : Int) (C : Int) (C2 : Int) (.slice B (C * C2) cb)) := by rw [hw1]; exact (Blk.new2 w _ _ _).alloc _
          have hpr : Blk w1 (w.heap.size + 1 + 1) 24 (mtC 0 0 0 (.slice none 0 0)) := by
            rw [hw1]
            have h := Blk.new ((w.alloc (.cells #[.int .i64 (m : Int), .int .i64 (R : Int), .int .i64 (C : Int), .slice A (R * C) ca] 24)).alloc (.cells #[.int .i64 (m : Int), .int .i64 (C : Int), .int .i64 (C2 : Int), .slice B (C * C2) cb] 24)) 24 (mtC 0 0 0 (.slice none 0 0))
            rw [World.size_alloc, World.size_alloc] at h
            exact h
          have HW1 := hideIt hw1
          have HW01 := hideIt hw01
          have HBA := hideIt hba
          have HBB := hideIt hbb
          have HPR := hideIt hpr
          clear hw1 hw01 hba hbb hpr
          go_enter Tryd.func12, Tryd.ntmps12
          go_wp2_with fail
          rw [← HW1.out]
          refine (HVA.out w1 HW01.out).mono ?_
          rintro e w2 ⟨rfl, hb2⟩
          have HBA2 := hideIt (HBA.out.kept hb2 HBA.out.lt)
          have HBB2 := hideIt (HBB.out.kept hb2 HBB.out.lt)
          have HPR2 := hideIt (HPR.out.kept hb2 HPR.out.lt)
          have HW02 := hideIt (HW01.out.trans (hb2.mono HW01.out.size))
          clear hb2 HW1 HW01 HBA HBB HPR HVA
          have b0 := HBB2.out.cell 0
          have b1 := HBB2.out.cell 1
          have b2 := HBB2.out.cell 2
          have b3 := HBB2.out.cell 3
          go_wp2_with fail
          refine (HVB.out w2 HW02.out).mono ?_
          rintro e w3 ⟨rfl, hb3⟩
          have HBA3 := hideIt (HBA2.out.kept hb3 HBA2.out.lt)
          have HBB3 := hideIt (HBB2.out.kept hb3 HBB2.out.lt)
          have HPR3 := hideIt (HPR2.out.kept hb3 HPR2.out.lt)
          have HW03 := hideIt (HW02.out.trans (hb3.mono HW02.out.size))
          clear b0 b1 b2 b3 hb3 HW02 HBA2 HBB2 HPR2 HVB
          have a0 := HBA3.out.cell 0
          have a1 := HBA3.out.cell 1
          have a2 := HBA3.out.cell 2
          have b0 := HBB3.out.cell 0
          have b1 := HBB3.out.cell 1
          have b2 := HBB3.out.cell 2
          go_wp2_with (go_at_call 35; refine (HZS.out _).mono ?_; rintro e w5 ⟨gp, rfl, hg, hc, hb5⟩; have HMK := hideIt (Mk.start (m := m) HW03.out HPR3.out (by omega) hb5 hg hc rfl); have HB5 := hideIt hb5; have HG := hideIt hg; have k1 := (hb5.cell (p := ⟨w.heap.size, 1, none⟩) HBA3.out.lt).trans a1; have hlt5 : w.heap.size < w5.heap.size := Nat.lt_of_lt_of_le HBA3.out.lt hb5.size; clear hg hc hb5)
          obtain ⟨w6, hw6⟩ : ∃ w6, w6 = w5.alloc (.cells #[.int .i64 (m : Int), .int .i64 (R : Int), .int .i64 (C2 : Int), .slice (some ⟨gp, 0, none⟩) (R * C2) (R * C2)] 24) := ⟨_, rfl⟩
          obtain ⟨p6, hp6⟩ : ∃ p6, p6 = w5.heap.size := ⟨_, rfl⟩
          rw [← hw6, ← hp6]
          have HM0 : Hid (Mk w w6 (w.heap.size + 1 + 1) p6 gp m R C2 w6 (fun _ _ => 0)) := by rw [hw6, hp6]; exact HMK.out
          have HG0 := hideIt (show Below w3.heap.size w3 w6 by rw [hw6]; exact HB5.out.alloc HB5.out.size _)
          have HARA := hideIt (ArgM.start HIA.out HBA0.out hcapa HBA3.out HM0.out.w06 HG0.out HG.out HM0.out.gl0)
          have HARB := hideIt (ArgM.start HIB.out HBB0.out hcapb HBB3.out HM0.out.w06 HG0.out HG.out HM0.out.gl0)
          have HTN := hideIt (show 0 ≠ gp by have := HTT.out.lo; have := HM0.out.gl0; omega)
          clear hw6 hp6 HMK HB5 HG HG0 HIA HIB HBA0 HBB0 HBA3 HBB3 HPR3 HW03 HZS k1 hlt5 a0 a1 a2 b0 b1 b2 hq1 hq2 hcapa hcapb
          go_loopg [42] R (fun gk s42 wr => ∃ i : Nat, i + gk = R ∧ s42 = .int .i64 (i : Int) ∧ Aside (Mk w w6 (w.heap.size + 1 + 1) p6 gp m R C2 wr (mmK m C E E2 i 0)))
          case atStart => exact ⟨0, by omega, rfl, HM0.out.congr (fun i j _ _ => by unfold mmK; rw [if_neg (by omega)]; split <;> rfl)⟩
          case round =>
            obtain ⟨i, hi, rfl, HI⟩ := hrel
            by_cases hlt : i < R
            · have hinc := inc_c 3 i (by omega)
              have hiR : (i : Int) < (R : Int) := by omega
              obtain ⟨D, hrow, hints⟩ := HARA.out.row hlt (by omega) (by omega)
              have HROW := hideIt hrow
              have HINT := hideIt hints
              have HMK := hideIt HI.out
              clear HI hrow hints HM0
              obtain ⟨g1, rfl⟩ : ∃ x, x = gk := ⟨gk, rfl⟩
              go_wp2_with (first
                | ((with_reducible refine at_load ?_); refine wpList_ldM rfl (.tmp 2) rfl w.heap.size _ _ _ _ rfl (HARA.out.sel HMK.out.sel).box ?_)
                | (go_at_call 36; refine (HROW.out _).mono ?_; rintro e w7 ⟨rfl, hb7⟩; have HM7 := hideIt (HMK.out.below hb7); clear hb7))
              clear HMK HROW
              go_loopg [49] C (fun gk s49 wr => ∃ j : Nat, j + gk = C ∧ s49 = .int .i64 (j : Int) ∧ Aside (Mk w w6 (w.heap.size + 1 + 1) p6 gp m R C2 wr (mmK m C E E2 i j)))
              case atStart => exact ⟨0, by omega, rfl, HM7.out⟩
              case round =>
                obtain ⟨j, hj, rfl, HJ⟩ := hrel
                by_cases hltj : j < C
                · have hincj := inc_c 3 j (by omega)
                  have hjC : (j : Int) < (C : Int) := by omega
                  have hI2 := HINT.out.sel HJ.out.sel (fun q hq e => HARA.out.bne (by have := ix_lt hlt hltj; omega) e)
                  have hD := hI2.adr (by omega)
                  have hcell := hI2.cell j hltj
                  subst hD
                  obtain ⟨D2, hrow2, hints2⟩ := HARB.out.row hltj (by omega) (by omega)
                  have HRB := hideIt hrow2
                  have HIB2 := hideIt hints2
                  have HMK := hideIt HJ.out
                  have HX := hideIt (HE.out i j)
                  clear HJ hI2 HM7 hrow2 hints2
                  obtain ⟨D3, hrow3, hints3⟩ := HMK.out.rowI hlt (by omega) (by omega)
                  have HRP := hideIt hrow3
                  have HIP := hideIt hints3
                  have HARW := hideIt (HARA.out.sel HMK.out.sel)
                  have HBRW := hideIt (HARB.out.sel HMK.out.sel)
                  have QF := hideIt (show ∀ W, Below wr.heap.size wr W → W.cell? ⟨w.heap.size, 0, none⟩ = some (.int .i64 (m : Int)) from fun W hW => (HARW.out.below hW).box.cell 0)
                  have QM := hideIt (show ∀ W, Below wr.heap.size wr W → _ from fun W hW => ld_mt (HMK.out.below hW).box)
                  have QB := hideIt (show ∀ W, Below wr.heap.size wr W → _ from fun W hW => ld_mt (HBRW.out.below hW).box)
                  have HNX := hideIt (mmK_next HM.out 0 HE.out HE2.out i j C)
                  have HIBW := hideIt (show ∀ W, Below wr.heap.size wr W → Ints W D2 bb (ob + j * C2) C2 (E2 j) from fun W hW => (HIB2.out.sel HMK.out.sel (fun q hq e => HARB.out.bne (by have := ix_lt hltj hq; omega) e)).below hW (fun h0 => Nat.lt_of_lt_of_le (HIB2.out.lt h0) HMK.out.sel.size))
                  obtain ⟨x, hx⟩ : ∃ x, x = E i j := ⟨_, rfl⟩
                  rw [← hx] at hcell HX HNX
                  clear hx hrow3 hints3
                  go_wp2_with fail
                  refine calm_tail (C := fun W => Below wr.heap.size wr W) 9 (by kernel_rfl) (by kernel_rfl) (Below.refl _ _).drew ?_
                  simp only [List.take_succ_cons, List.take_zero, List.drop_succ_cons, List.drop_zero]
                  go_big_quiet_step ((intro _; rfl))
                  go_big_quiet_want
                  refine quiet_run (.int .i64 (m : Int)) (fun W hW => by have := QF.out W hW; simp [execOp, this, go_sem]) ?_
                  go_big_quiet_on
                  try simp only [Act.put]
                  try simp only [List.setIfInBounds_toArray]
                  try simp only [List.set_cons_succ]
                  try simp only [List.set_cons_zero]
                  go_big_quiet_want
                  refine quiet_ld 24 (.tmp 6) rfl (mtV (m : Int) (R : Int) (C2 : Int) (.slice (some ⟨gp, 0, none⟩) (R * C2) (R * C2))) (fun W hW => QM.out W hW) ?_
                  go_big_quiet_on
                  try simp only [Act.put]
                  try simp only [List.setIfInBounds_toArray]
                  try simp only [List.set_cons_succ]
                  try simp only [List.set_cons_zero]
                  go_big_quiet_step ((intro _; rfl))
                  go_big_quiet_step ((intro hb; refine (HRP.out _).mono ?_; rintro x wc ⟨rfl, hb2⟩; exact ⟨rfl, hb.trans (hb2.mono hb.size)⟩))
                  go_big_quiet_want
                  refine quiet_ld 24 (.tmp 3) rfl (mtV (m : Int) (C : Int) (C2 : Int) (.slice B (C * C2) cb)) (fun W hW => QB.out W hW) ?_
                  go_big_quiet_on
                  try simp only [Act.put]
                  try simp only [List.setIfInBounds_toArray]
                  try simp only [List.set_cons_succ]
                  try simp only [List.set_cons_zero]
                  go_big_quiet_step ((intro _; rfl))
                  go_big_quiet_step ((intro hb; refine (HRB.out _).mono ?_; rintro x wc ⟨rfl, hb2⟩; exact ⟨rfl, hb.trans (hb2.mono hb.size)⟩))
                  go_big_quiet_step ((intro _; rfl))
                  refine wpQuiet_nil ?_
                  intro W0 hW0
                  have HW0 := hideIt hW0
                  clear hW0 QF QM QB
                  have HAD := hideIt (addm_any m x C2 HM.out HX.out (by omega) (mmK m C E E2 i j i) (E2 j) (fun q _ => mmK_v HM.out HE.out C i j i q) (fun q _ => HE2.out j q) D3 D2 (R * C2 - i * C2) (cb - j * C2) gp (i * C2) bb (ob + j * C2) W0 ((HMK.out.below HW0.out).tabs HTT.out) (HIP.out W0 HW0.out) (HIBW.out W0 HW0.out) (fun q hq => (HMK.out.below HW0.out).cells.free _) (fun q q2 h1 h2 e => HARB.out.bne (by have := ix_lt hltj h1; omega) e.1) HTN.out)
                  have HM9 := hideIt (HMK.out.below HW0.out)
                  clear HRP HRB HIP HIBW HMK HARW HBRW HW0 HINT hcell
                  go_wp2_with (go_at_call 37; refine HAD.out.mono ?_; rintro e w9 ⟨rfl, hI, hS⟩; have HMX := hideIt ((HM9.out.rowset hlt hI hS).congr (fun r q _ _ => HNX.out r q)); clear hI hS)
                  go_roundg (gk - 1)
                  case measure => omega
                  case rel => exact ⟨j + 1, by omega, by go_num, HMX.out⟩
                · have hjC : ¬ (j : Int) < (C : Int) := by omega
                  obtain rfl : j = C := by omega
                  have HMK := hideIt (HJ.out.congr (fun r q hr hq => mmK_row m j E E2 i r q))
                  clear HJ HM7
                  go_wp2_with fail
                  go_roundg (g1 - 1)
                  case measure => omega
                  case rel => exact ⟨i + 1, by omega, by go_num, HMK.out⟩
            · have hiR : ¬ (i : Int) < (R : Int) := by omega
              obtain rfl : i = R := by omega
              have HMK := hideIt (HI.out.congr (N := mm m C E E2) (fun r q hr hq => by unfold mmK; rw [if_pos hr]))
              clear HI HM0
              go_wp2_with (first
                | ((with_reducible refine at_load ?_); refine wpList_ldM rfl (.tmp 6) rfl p6 _ _ _ _ rfl HMK.out.box ?_)
                | ((with_reducible refine at_store ?_); refine wpList_stM rfl (.tmp 4) (.tmp 66) rfl (w.heap.size + 1 + 1) _ _ _ _ _ _ _ _ rfl rfl rfl HMK.out.res ?_; intro w8 HT8 HB8))
              refine bodyPost_ret (results_two rfl _ _ (w.heap.size + 1 + 1) _ _ _ rfl HB8.out Tryd.underlying24 rfl isz4) rfl ?_
              rw [HR2.out]
              exact HMK.out.fin (by omega) (by omega) HT8.out

        · rw [hva] at HVA
          rw [hvb] at HVB
          have HR2 : Hid (r = (zeroM, 1)) := hideIt (by rw [HR.out]; unfold mulM; rw [if_neg (fun h => hC h.2.2.2)])
          have hq1 := int_neqF6 3 hF
          have hq2 := int_neqT6 3 hC
          clear hva hvb hF hC hsa hsb hT HR
          generalize a.l.length = na at *
          generalize b.l.length = nb at *
          generalize a.F = Fa at *
          generalize a.R = Ra at *
          generalize a.C = Ca at *
          generalize b.F = Fb at *
          generalize b.R = Rb at *
          generalize b.C = Cb at *
          obtain ⟨w1, hw1⟩ : ∃ w1, w1 = ((w.alloc (.cells #[.int .i64 Fa, .int .i64 Ra, .int .i64 Ca, .slice A na ca] 24)).alloc (.cells #[.int .i64 Fb, .int .i64 Rb, .int .i64 Cb, .slice B nb cb] 24)).alloc (.cells #[.int .i64 0, .int .i64 0, .int .i64 0, .slice none 0 0] 24) := ⟨_, rfl⟩
          have hw01 : Below w.heap.size w w1 := by rw [hw1]; exact (((Below.refl _ w).alloc (Nat.le_refl _) _).alloc (by simp) _).alloc (by simp; omega) _
          have hba : Blk w1 w.heap.size 24 (mtC Fa Ra Ca (.slice A na ca)) := by rw [hw1]; exact ((Blk.new w _ _).alloc _).alloc _
          have hbb : Blk w1 (w.heap.size + 1) 24 (mtC Fb Rb Cb (.slice B nb cb)) := by rw [hw1]; exact (Blk.new2 w _ _ _).alloc _
          have hpr : Blk w1 (w.heap.size + 1 + 1) 24 (mtC 0 0 0 (.slice none 0 0)) := by
            rw [hw1]
            have h := Blk.new ((w.alloc (.cells #[.int .i64 Fa, .int .i64 Ra, .int .i64 Ca, .slice A na ca] 24)).alloc (.cells #[.int .i64 Fb, .int .i64 Rb, .int .i64 Cb, .slice B nb cb] 24)) 24 (mtC 0 0 0 (.slice none 0 0))
            rw [World.size_alloc, World.size_alloc] at h
            exact h
          have HW1 := hideIt hw1
          have HW01 := hideIt hw01
          have HBA := hideIt hba
          have HBB := hideIt hbb
          have HPR := hideIt hpr
          clear hw1 hw01 hba hbb hpr
          go_enter Tryd.func12, Tryd.ntmps12
          go_wp2_with fail
          rw [← HW1.out]
          refine (HVA.out w1 HW01.out).mono ?_
          rintro e w2 ⟨rfl, hb2⟩
          have HBA2 := hideIt (HBA.out.kept hb2 HBA.out.lt)
          have HBB2 := hideIt (HBB.out.kept hb2 HBB.out.lt)
          have HPR2 := hideIt (HPR.out.kept hb2 HPR.out.lt)
          have HW02 := hideIt (HW01.out.trans (hb2.mono HW01.out.size))
          clear hb2 HW1 HW01 HBA HBB HPR HVA
          have b0 := HBB2.out.cell 0
          have b1 := HBB2.out.cell 1
          have b2 := HBB2.out.cell 2
          have b3 := HBB2.out.cell 3
          go_wp2_with fail
          refine (HVB.out w2 HW02.out).mono ?_
          rintro e w3 ⟨rfl, hb3⟩
          have HBA3 := hideIt (HBA2.out.kept hb3 HBA2.out.lt)
          have HBB3 := hideIt (HBB2.out.kept hb3 HBB2.out.lt)
          have HPR3 := hideIt (HPR2.out.kept hb3 HPR2.out.lt)
          have HW03 := hideIt (HW02.out.trans (hb3.mono HW02.out.size))
          clear b0 b1 b2 b3 hb3 HW02 HBA2 HBB2 HPR2 HVB
          have a0 := HBA3.out.cell 0
          have a1 := HBA3.out.cell 1
          have a2 := HBA3.out.cell 2
          have b0 := HBB3.out.cell 0
          have b1 := HBB3.out.cell 1
          have b2 := HBB3.out.cell 2
          go_wp2_with ((with_reducible refine at_store ?_); refine wpList_stM rfl (.tmp 4) (.tmp 32) rfl (w.heap.size + 1 + 1) 0 0 0 0 0 0 (.slice none 0 0) (.slice none 0 0) rfl rfl rfl HPR3.out ?_; intro w8 HT8 HB8)
          refine bodyPost_ret (results_two rfl _ _ (w.heap.size + 1 + 1) _ _ _ rfl HB8.out Tryd.underlying24 rfl isz4) rfl ?_
          rw [HR2.out]
          exact MRes.bad (HT8.out.below HW03.out (by omega)) 1
      · rw [hva] at HVA
        rw [hvb] at HVB
        have HR2 : Hid (r = (zeroM, 1)) := hideIt (by rw [HR.out]; unfold mulM; rw [if_neg (fun h => hF h.2.2.1)])
        have hq1 := int_neqT6 3 hF
        clear hva hvb hF hsa hsb hT HR
        generalize a.l.length = na at *
        generalize b.l.length = nb at *
        generalize a.F = Fa at *
        generalize a.R = Ra at *
        generalize a.C = Ca at *
        generalize b.F = Fb at *
        generalize b.R = Rb at *
        generalize b.C = Cb at *
        obtain ⟨w1, hw1⟩ : ∃ w1, w1 = ((w.alloc (.cells #[.int .i64 Fa, .int .i64 Ra, .int .i64 Ca, .slice A na ca] 24)).alloc (.cells #[.int .i64 Fb, .int .i64 Rb, .int .i64 Cb, .slice B nb cb] 24)).alloc (.cells #[.int .i64 0, .int .i64 0, .int .i64 0, .slice none 0 0] 24) := ⟨_, rfl⟩
        have hw01 : Below w.heap.size w w1 := by rw [hw1]; exact (((Below.refl _ w).alloc (Nat.le_refl _) _).alloc (by simp) _).alloc (by simp; omega) _
        have hba : Blk w1 w.heap.size 24 (mtC Fa Ra Ca (.slice A na ca)) := by rw [hw1]; exact ((Blk.new w _ _).alloc _).alloc _
        have hbb : Blk w1 (w.heap.size + 1) 24 (mtC Fb Rb Cb (.slice B nb cb)) := by rw [hw1]; exact (Blk.new2 w _ _ _).alloc _
        have hpr : Blk w1 (w.heap.size + 1 + 1) 24 (mtC 0 0 0 (.slice none 0 0)) := by
          rw [hw1]
          have h := Blk.new ((w.alloc (.cells #[.int .i64 Fa, .int .i64 Ra, .int .i64 Ca, .slice A na ca] 24)).alloc (.cells #[.int .i64 Fb, .int .i64 Rb, .int .i64 Cb, .slice B nb cb] 24)) 24 (mtC 0 0 0 (.slice none 0 0))
          rw [World.size_alloc, World.size_alloc] at h
          exact h
        have HW1 := hideIt hw1
        have HW01 := hideIt hw01
        have HBA := hideIt hba
        have HBB := hideIt hbb
        have HPR := hideIt hpr
        clear hw1 hw01 hba hbb hpr
        go_enter Tryd.func12, Tryd.ntmps12
        go_wp2_with fail
        rw [← HW1.out]
        refine (HVA.out w1 HW01.out).mono ?_
        rintro e w2 ⟨rfl, hb2⟩
        have HBA2 := hideIt (HBA.out.kept hb2 HBA.out.lt)
        have HBB2 := hideIt (HBB.out.kept hb2 HBB.out.lt)
        have HPR2 := hideIt (HPR.out.kept hb2 HPR.out.lt)
        have HW02 := hideIt (HW01.out.trans (hb2.mono HW01.out.size))
        clear hb2 HW1 HW01 HBA HBB HPR HVA
        have b0 := HBB2.out.cell 0
        have b1 := HBB2.out.cell 1
        have b2 := HBB2.out.cell 2
        have b3 := HBB2.out.cell 3
        go_wp2_with fail
        refine (HVB.out w2 HW02.out).mono ?_
        rintro e w3 ⟨rfl, hb3⟩
        have HBA3 := hideIt (HBA2.out.kept hb3 HBA2.out.lt)
        have HBB3 := hideIt (HBB2.out.kept hb3 HBB2.out.lt)
        have HPR3 := hideIt (HPR2.out.kept hb3 HPR2.out.lt)
        have HW03 := hideIt (HW02.out.trans (hb3.mono HW02.out.size))
        clear b0 b1 b2 b3 hb3 HW02 HBA2 HBB2 HPR2 HVB
        have a0 := HBA3.out.cell 0
        have a1 := HBA3.out.cell 1
        have a2 := HBA3.out.cell 2
        have b0 := HBB3.out.cell 0
        have b1 := HBB3.out.cell 1
        have b2 := HBB3.out.cell 2
        go_wp2_with ((with_reducible refine at_store ?_); refine wpList_stM rfl (.tmp 4) (.tmp 32) rfl (w.heap.size + 1 + 1) 0 0 0 0 0 0 (.slice none 0 0) (.slice none 0 0) rfl rfl rfl HPR3.out ?_; intro w8 HT8 HB8)
        refine bodyPost_ret (results_two rfl _ _ (w.heap.size + 1 + 1) _ _ _ rfl HB8.out Tryd.underlying24 rfl isz4) rfl ?_
        rw [HR2.out]
        exact MRes.bad (HT8.out.below HW03.out (by omega)) 1
    · rw [hva] at HVA
      rw [Bool.eq_false_iff.2 hvb] at HVB
      have HR2 : Hid (r = (zeroM, 1)) := hideIt (by rw [HR.out]; unfold mulM; rw [if_neg (fun h => hvb h.2.1)])
      clear hva hvb hsa hsb hT HR
      generalize a.l.length = na at *
      generalize b.l.length = nb at *
      generalize a.F = Fa at *
      generalize a.R = Ra at *
      generalize a.C = Ca at *
      generalize b.F = Fb at *
      generalize b.R = Rb at *
      generalize b.C = Cb at *
      obtain ⟨w1, hw1⟩ : ∃ w1, w1 = ((w.alloc (.cells #[.int .i64 Fa, .int .i64 Ra, .int .i64 Ca, .slice A na ca] 24)).alloc (.cells #[.int .i64 Fb, .int .i64 Rb, .int .i64 Cb, .slice B nb cb] 24)).alloc (.cells #[.int .i64 0, .int .i64 0, .int .i64 0, .slice none 0 0] 24) := ⟨_, rfl⟩
      have hw01 : Below w.heap.size w w1 := by rw [hw1]; exact (((Below.refl _ w).alloc (Nat.le_refl _) _).alloc (by simp) _).alloc (by simp; omega) _
      have hba : Blk w1 w.heap.size 24 (mtC Fa Ra Ca (.slice A na ca)) := by rw [hw1]; exact ((Blk.new w _ _).alloc _).alloc _
      have hbb : Blk w1 (w.heap.size + 1) 24 (mtC Fb Rb Cb (.slice B nb cb)) := by rw [hw1]; exact (Blk.new2 w _ _ _).alloc _
      have hpr : Blk w1 (w.heap.size + 1 + 1) 24 (mtC 0 0 0 (.slice none 0 0)) := by
        rw [hw1]
        have h := Blk.new ((w.alloc (.cells #[.int .i64 Fa, .int .i64 Ra, .int .i64 Ca, .slice A na ca] 24)).alloc (.cells #[.int .i64 Fb, .int .i64 Rb, .int .i64 Cb, .slice B nb cb] 24)) 24 (mtC 0 0 0 (.slice none 0 0))
        rw [World.size_alloc, World.size_alloc] at h
        exact h
      have HW1 := hideIt hw1
      have HW01 := hideIt hw01
      have HBA := hideIt hba
      have HBB := hideIt hbb
      have HPR := hideIt hpr
      clear hw1 hw01 hba hbb hpr
      go_enter Tryd.func12, Tryd.ntmps12
      go_wp2_with fail
      rw [← HW1.out]
      refine (HVA.out w1 HW01.out).mono ?_
      rintro e w2 ⟨rfl, hb2⟩
      have HBA2 := hideIt (HBA.out.kept hb2 HBA.out.lt)
      have HBB2 := hideIt (HBB.out.kept hb2 HBB.out.lt)
      have HPR2 := hideIt (HPR.out.kept hb2 HPR.out.lt)
      have HW02 := hideIt (HW01.out.trans (hb2.mono HW01.out.size))
      clear hb2 HW1 HW01 HBA HBB HPR HVA
      have b0 := HBB2.out.cell 0
      have b1 := HBB2.out.cell 1
      have b2 := HBB2.out.cell 2
      have b3 := HBB2.out.cell 3
      go_wp2_with fail
      refine (HVB.out w2 HW02.out).mono ?_
      rintro e w3 ⟨rfl, hb3⟩
      have HBA3 := hideIt (HBA2.out.kept hb3 HBA2.out.lt)
      have HBB3 := hideIt (HBB2.out.kept hb3 HBB2.out.lt)
      have HPR3 := hideIt (HPR2.out.kept hb3 HPR2.out.lt)
      have HW03 := hideIt (HW02.out.trans (hb3.mono HW02.out.size))
      clear b0 b1 b2 b3 hb3 HW02 HBA2 HBB2 HPR2 HVB
      have a0 := HBA3.out.cell 0
      have a1 := HBA3.out.cell 1
      have a2 := HBA3.out.cell 2
      have b0 := HBB3.out.cell 0
      have b1 := HBB3.out.cell 1
      have b2 := HBB3.out.cell 2
      go_wp2_with ((with_reducible refine at_store ?_); refine wpList_stM rfl (.tmp 4) (.tmp 32) rfl (w.heap.size + 1 + 1) 0 0 0 0 0 0 (.slice none 0 0) (.slice none 0 0) rfl rfl rfl HPR3.out ?_; intro w8 HT8 HB8)
      refine bodyPost_ret (results_two rfl _ _ (w.heap.size + 1 + 1) _ _ _ rfl HB8.out Tryd.underlying24 rfl isz4) rfl ?_
      rw [HR2.out]
      exact MRes.bad (HT8.out.below HW03.out (by omega)) 1
  · rw [Bool.eq_false_iff.2 hva] at HVA
    have HR2 : Hid (r = (zeroM, 1)) := hideIt (by rw [HR.out]; unfold mulM; rw [if_neg (fun h => hva h.1)])
    clear hva HVB hsa hsb hT HR
    generalize a.l.length = na at *
    generalize b.l.length = nb at *
    generalize a.F = Fa at *
    generalize a.R = Ra at *
    generalize a.C = Ca at *
    generalize b.F = Fb at *
    generalize b.R = Rb at *
    generalize b.C = Cb at *
    obtain ⟨w1, hw1⟩ : ∃ w1, w1 = ((w.alloc (.cells #[.int .i64 Fa, .int .i64 Ra, .int .i64 Ca, .slice A na ca] 24)).alloc (.cells #[.int .i64 Fb, .int .i64 Rb, .int .i64 Cb, .slice B nb cb] 24)).alloc (.cells #[.int .i64 0, .int .i64 0, .int .i64 0, .slice none 0 0] 24) := ⟨_, rfl⟩
    have hw01 : Below w.heap.size w w1 := by rw [hw1]; exact (((Below.refl _ w).alloc (Nat.le_refl _) _).alloc (by simp) _).alloc (by simp; omega) _
    have hba : Blk w1 w.heap.size 24 (mtC Fa Ra Ca (.slice A na ca)) := by rw [hw1]; exact ((Blk.new w _ _).alloc _).alloc _
    have hbb : Blk w1 (w.heap.size + 1) 24 (mtC Fb Rb Cb (.slice B nb cb)) := by rw [hw1]; exact (Blk.new2 w _ _ _).alloc _
    have hpr : Blk w1 (w.heap.size + 1 + 1) 24 (mtC 0 0 0 (.slice none 0 0)) := by
      rw [hw1]
      have h := Blk.new ((w.alloc (.cells #[.int .i64 Fa, .int .i64 Ra, .int .i64 Ca, .slice A na ca] 24)).alloc (.cells #[.int .i64 Fb, .int .i64 Rb, .int .i64 Cb, .slice B nb cb] 24)) 24 (mtC 0 0 0 (.slice none 0 0))
      rw [World.size_alloc, World.size_alloc] at h
      exact h
    have HW1 := hideIt hw1
    have HW01 := hideIt hw01
    have HBA := hideIt hba
    have HBB := hideIt hbb
    have HPR := hideIt hpr
    clear hw1 hw01 hba hbb hpr
    go_enter Tryd.func12, Tryd.ntmps12
    go_wp2_with fail
    rw [← HW1.out]
    refine (HVA.out w1 HW01.out).mono ?_
    rintro e w2 ⟨rfl, hb2⟩
    have HBA2 := hideIt (HBA.out.kept hb2 HBA.out.lt)
    have HBB2 := hideIt (HBB.out.kept hb2 HBB.out.lt)
    have HPR2 := hideIt (HPR.out.kept hb2 HPR.out.lt)
    have HW02 := hideIt (HW01.out.trans (hb2.mono HW01.out.size))
    clear hb2 HW1 HW01 HBA HBB HPR HVA
    go_wp2_with ((with_reducible refine at_store ?_); refine wpList_stM rfl (.tmp 4) (.tmp 32) rfl (w.heap.size + 1 + 1) 0 0 0 0 0 0 (.slice none 0 0) (.slice none 0 0) rfl rfl rfl HPR2.out ?_; intro w8 HT8 HB8)
    refine bodyPost_ret (results_two rfl _ _ (w.heap.size + 1 + 1) _ _ _ rfl HB8.out Tryd.underlying24 rfl isz4) rfl ?_
    rw [HR2.out]
    exact MRes.bad (HT8.out.below HW02.out (by omega)) 1

end Go.Proofs.YtodmcojcmihooaaDoor
