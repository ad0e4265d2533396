/-
  The reference's Mul, walked.
  The reference's Pick, walked.
-/
import Derived.Test.YtodmcojcmihooaaDoorRefT
import Derived.Test.YtodmcojcmihooaaDoorMatMu
import Derived.Test.YtodmcojcmihooaaDoorMatP
namespace Go.Proofs.YtodmcojcmihooaaDoor
open Go.RowKit
set_option linter.unusedVariables false

/-- The product while it is made: i rows, and j elements of the next. -/
def mpK (m n : Nat) (A B : Mx) (i j : Nat) : Mx := fun r q => if r < i ∨ (r = i ∧ q < j) then mm m n A B r q else 0
theorem mpK_next (m n : Nat) (A B : Mx) (i j : Nat) (x : Nat) (hx : x = sm n (fun t => mul m (A i t) (B t j))) : upd2 (mpK m n A B i j) i j x = mpK m n A B i (j + 1) := by
  funext r q
  unfold upd2 mpK
  by_cases e : r = i ∧ q = j
  · rw [if_pos e, if_pos (by omega), hx, e.1, e.2]
    rfl
  · rw [if_neg e]
    by_cases e2 : r < i ∨ (r = i ∧ q < j)
    · rw [if_pos e2, if_pos (by omega)]
    · rw [if_neg e2, if_neg (by omega)]
theorem mpK_row (m n : Nat) {C : Nat} (A B : Mx) (i r q : Nat) (hq : q < C) : mpK m n A B i C r q = mpK m n A B (i + 1) 0 r q := by
  unfold mpK
  by_cases e : r < i + 1
  · rw [if_pos (by omega), if_pos (by omega)]
  · rw [if_neg (by omega), if_neg (by omega)]

set_option maxHeartbeats 2000000 in
set_option maxRecDepth 100000 in
theorem rmul6_any (a b : Mt) (A B : Option Addr) (ca cb : Nat) (w : World) (hsa : MIn w a A ca) (hsb : MIn w b B cb) :
    Calls Tryd.prog 13 #[mtV a.F a.R a.C (.slice A a.l.length ca), mtV b.F b.R b.C (.slice B b.l.length cb)] w (MRes w (mulM a b)) := by
  have HVA := hideIt (rvalid_b hsa)
  have HVB := hideIt (rvalid_b hsb)
  obtain ⟨r, hr⟩ : ∃ r, r = mulM a b := ⟨_, rfl⟩
  rw [← hr]
  have HR := hideIt hr
  clear hr
  by_cases hva : vM a = true
  · by_cases hvb : vM b = true
    · by_cases hF : a.F = b.F
      · by_cases hC : a.C = b.R
        · rw [hva] at HVA
          rw [hvb] at HVB
          obtain ⟨m, R, C, hm, hRl, hCl, hE, ha⟩ := vM_is hva
          obtain ⟨m2, R2, C2, hm2, hRl2, hCl2, hE2, hb⟩ := vM_is hvb
          have HR2 : Hid (r = (mkM a.F.toNat a.R.toNat b.C.toNat (mm a.F.toNat a.C.toNat a.e b.e), 0)) := hideIt (by rw [HR.out]; unfold mulM; rw [if_pos ⟨hva, hvb, hF, hC⟩])
          generalize a.e = E at ha hE HR2
          generalize b.e = E2 at hb hE2 HR2
          subst ha
          subst hb
          have e1 : m = m2 := Int.ofNat.inj hF
          have e2 : C = R2 := Int.ofNat.inj hC
          subst e1 e2
          obtain ⟨ba, oa, hIA, hba0⟩ := mk_cell hsa
          obtain ⟨bb, ob, hIB, hbb0⟩ := mk_cell hsb
          have hcapa := hsa.cap
          have hcapb := hsb.cap
          rw [mk_len] at HVA hcapa
          rw [mk_len] at HVB hcapb
          rw [mk_len, mk_len]
          change Hid (r = (mkM ((m : Int)).toNat ((R : Int)).toNat ((C2 : Int)).toNat (mm ((m : Int)).toNat ((C : Int)).toNat E E2), 0)) at HR2
          rw [Int.toNat_natCast, Int.toNat_natCast, Int.toNat_natCast, Int.toNat_natCast] at HR2
          have HIA := hideIt hIA
          have HIB := hideIt hIB
          have HBA0 := hideIt hba0
          have HBB0 := hideIt hbb0
          have HE := hideIt hE
          have HE2 := hideIt hE2
          have HM := hideIt hm
          have HZS := hideIt (fun W => rzeros_any m R C2 (by omega) (by omega) W)
          have hq1 := int_neqF6 3 (a := (m : Int)) rfl
          have hq2 := int_neqF6 3 (a := (C : Int)) rfl
          clear hva hvb hF hC hsa hsb HR hIA hIB hba0 hbb0 hE hE2 hm hm2 hRl2
          show Calls Tryd.prog 13 #[mtV (m : Int) (R : Int) (C : Int) (.slice A (R * C) ca), mtV (m : Int) (C : Int) (C2 : Int) (.slice B (C * C2) cb)] w _
          change Hid (∀ W, Below w.heap.size w W → Calls Tryd.prog 22 #[mtV (m : Int) (R : Int) (C : Int) (.slice A (R * C) ca)] W fun e w' => e = .returned (.bool true) ∧ Below W.heap.size W w') at HVA
          change Hid (∀ W, Below w.heap.size w W → Calls Tryd.prog 22 #[mtV (m : Int) (C : Int) (C2 : Int) (.slice B (C * C2) cb)] W fun e w' => e = .returned (.bool true) ∧ Below W.heap.size W w') at HVB
          obtain ⟨w1, hw1⟩ : ∃ w1, w1 = ((w.alloc (.cells #[.int .i64 (m : Int), .int .i64 (R : Int), .int .i64 (C : Int), .slice A (R * C) ca] 24)).alloc (.cells #[.int .i64 (m : Int), .int .i64 (C : Int), .int .i64 (C2 : Int), .slice B (C * C2) cb] 24)).alloc (.cells #[.int .i64 0, .int .i64 0, .int .i64 0, .slice none 0 0] 24) := ⟨_, rfl⟩
          have hw01 : Below w.heap.size w w1 := by rw [hw1]; exact (((Below.refl _ w).alloc (Nat.le_refl _) _).alloc (by simp) _).alloc (by simp; omega) _
          have hba : Blk w1 w.heap.size 24 (mtC (m : Int) (R : Int) (C : Int) (.slice A (R * C) ca)) := by rw [hw1]; exact ((Blk.new w _ _).alloc _).alloc _
          have hbb : Blk w1 (w.heap.size + 1) 24 (mtC (m : Int) (C : Int) (C2 : Int) (.slice B (C * C2) cb)) := by rw [hw1]; exact (Blk.new2 w _ _ _).alloc _
          have hpr : Blk w1 (w.heap.size + 1 + 1) 24 (mtC 0 0 0 (.slice none 0 0)) := by
            rw [hw1]
            have h := Blk.new ((w.alloc (.cells #[.int .i64 (m : Int), .int .i64 (R : Int), .int .i64 (C : Int), .slice A (R * C) ca] 24)).alloc (.cells #[.int .i64 (m : Int), .int .i64 (C : Int), .int .i64 (C2 : Int), .slice B (C * C2) cb] 24)) 24 (mtC 0 0 0 (.slice none 0 0))
            rw [World.size_alloc, World.size_alloc] at h
            exact h
          have HW1 := hideIt hw1
          have HW01 := hideIt hw01
          have HBA := hideIt hba
          have HBB := hideIt hbb
          have HPR := hideIt hpr
          have a0 := hba.cell 0
          have a1 := hba.cell 1
          have a2 := hba.cell 2
          have a3 := hba.cell 3
          clear hw1 hw01 hba hbb hpr
          go_enter Tryd.func13, Tryd.ntmps13
          go_wp2_with fail
          rw [← HW1.out]
          refine (HVA.out w1 HW01.out).mono ?_
          rintro e w2 ⟨rfl, hb2⟩
          have HBA2 := hideIt (HBA.out.kept hb2 HBA.out.lt)
          have HBB2 := hideIt (HBB.out.kept hb2 HBB.out.lt)
          have HPR2 := hideIt (HPR.out.kept hb2 HPR.out.lt)
          have HW02 := hideIt (HW01.out.trans (hb2.mono HW01.out.size))
          clear hb2 HW1 HW01 HBA HBB HPR HVA a0 a1 a2 a3
          have b0 := HBB2.out.cell 0
          have b1 := HBB2.out.cell 1
          have b2 := HBB2.out.cell 2
          have b3 := HBB2.out.cell 3
          go_wp2_with fail
          refine (HVB.out w2 HW02.out).mono ?_
          rintro e w3 ⟨rfl, hb3⟩
          have HBA3 := hideIt (HBA2.out.kept hb3 HBA2.out.lt)
          have HBB3 := hideIt (HBB2.out.kept hb3 HBB2.out.lt)
          have HPR3 := hideIt (HPR2.out.kept hb3 HPR2.out.lt)
          have HW03 := hideIt (HW02.out.trans (hb3.mono HW02.out.size))
          clear b0 b1 b2 b3 hb3 HW02 HBA2 HBB2 HPR2 HVB
          have a0 := HBA3.out.cell 0
          have a1 := HBA3.out.cell 1
          have a2 := HBA3.out.cell 2
          have b0 := HBB3.out.cell 0
          have b1 := HBB3.out.cell 1
          have b2 := HBB3.out.cell 2
          go_wp2_with (go_at_call 38; refine (HZS.out _).mono ?_; rintro e w5 ⟨gp, rfl, hg, hc, hb5⟩; have HMK := hideIt (Mk.start (m := m) HW03.out HPR3.out (by omega) hb5 hg hc rfl); have HB5 := hideIt hb5; have HG := hideIt hg; have k1 := (hb5.cell (p := ⟨w.heap.size, 1, none⟩) HBA3.out.lt).trans a1; have hlt5 : w.heap.size < w5.heap.size := Nat.lt_of_lt_of_le HBA3.out.lt hb5.size; clear hg hc hb5)
          obtain ⟨w6, hw6⟩ : ∃ w6, w6 = w5.alloc (.cells #[.int .i64 (m : Int), .int .i64 (R : Int), .int .i64 (C2 : Int), .slice (some ⟨gp, 0, none⟩) (R * C2) (R * C2)] 24) := ⟨_, rfl⟩
          obtain ⟨p6, hp6⟩ : ∃ p6, p6 = w5.heap.size := ⟨_, rfl⟩
          rw [← hw6, ← hp6]
          have HM0 : Hid (Mk w w6 (w.heap.size + 1 + 1) p6 gp m R C2 w6 (fun _ _ => 0)) := by rw [hw6, hp6]; exact HMK.out
          have HG0 := hideIt (show Below w3.heap.size w3 w6 by rw [hw6]; exact HB5.out.alloc HB5.out.size _)
          have HARA := hideIt (ArgM.start HIA.out HBA0.out hcapa HBA3.out HM0.out.w06 HG0.out HG.out HM0.out.gl0)
          have HARB := hideIt (ArgM.start HIB.out HBB0.out hcapb HBB3.out HM0.out.w06 HG0.out HG.out HM0.out.gl0)
          have hRC : R * C ≤ 32 * 32 := Nat.mul_le_mul hRl hCl
          have hCC : C * C2 ≤ 32 * 32 := Nat.mul_le_mul hCl hCl2
          have hRC2 : R * C2 ≤ 32 * 32 := Nat.mul_le_mul hRl hCl2
          clear hw6 hp6 HMK HB5 HG HG0 HIA HIB HBA0 HBB0 HBA3 HBB3 HPR3 HW03 HZS k1 hlt5 a0 a1 a2 b0 b1 b2 hq1 hq2 hcapa hcapb
          go_loopg [9] R (fun gk s9 wr => ∃ i : Nat, i + gk = R ∧ s9 = .int .i64 (i : Int) ∧ Aside (Mk w w6 (w.heap.size + 1 + 1) p6 gp m R C2 wr (mpK m C E E2 i 0)))
          case atStart => exact ⟨0, by omega, rfl, HM0.out.congr (fun i j _ _ => by unfold mpK; rw [if_neg (by omega)])⟩
          case round =>
            obtain ⟨i, hi, rfl, HI⟩ := hrel
            by_cases hlt : i < R
            · have hinc := inc_c 3 i (by omega)
              have hiR : (i : Int) < (R : Int) := by omega
              have HMK := hideIt HI.out
              have a1 := (HARA.out.sel HI.out.sel).box.cell 1
              clear HI HM0
              obtain ⟨g1, rfl⟩ : ∃ x, x = gk := ⟨gk, rfl⟩
              go_wp2_with fail
              clear a1
              go_loopg [10] C2 (fun gk s10 wr => ∃ j : Nat, j + gk = C2 ∧ s10 = .int .i64 (j : Int) ∧ Aside (Mk w w6 (w.heap.size + 1 + 1) p6 gp m R C2 wr (mpK m C E E2 i j)))
              case atStart => exact ⟨0, by omega, rfl, HMK.out⟩
              case round =>
                obtain ⟨j, hj, rfl, HJ⟩ := hrel
                by_cases hltj : j < C2
                · have hincj := inc_c 3 j (by omega)
                  have hjC : (j : Int) < (C2 : Int) := by omega
                  have HMJ := hideIt HJ.out
                  have b2 := (HARB.out.sel HJ.out.sel).box.cell 2
                  clear HJ HMK
                  obtain ⟨g2, rfl⟩ : ∃ x, x = gk := ⟨gk, rfl⟩
                  go_wp2_with fail
                  clear b2
                  go_loopg [11, 12] C (fun gk s11 s12 wr => ∃ k : Nat, k + gk = C ∧ s12 = .int .i64 (k : Int) ∧ s11 = .int .i64 ((sm k (fun t => mul m (E i t) (E2 t j)) : Nat) : Int) ∧ Aside (Mk w w6 (w.heap.size + 1 + 1) p6 gp m R C2 wr (mpK m C E E2 i j)))
                  case atStart => exact ⟨0, by omega, rfl, rfl, HMJ.out⟩
                  case round =>
                    obtain ⟨k, hk, rfl, rfl, HK⟩ := hrel
                    by_cases hltk : k < C
                    · have hinck := inc_c 3 k (by omega)
                      have hkC : (k : Int) < (C : Int) := by omega
                      have hIA := (HARA.out.sel HK.out.sel).ints
                      have hIB := (HARB.out.sel HK.out.sel).ints
                      have hl1 := ix_lt hlt hltk
                      have hl2 := ix_lt hltk hltj
                      have hA := hIA.adr (by omega)
                      have hB := hIB.adr (by omega)
                      have hc1 := hIA.cell (i * C + k) hl1
                      have hc2 := hIB.cell (k * C2 + j) hl2
                      rw [gl_at E hltk] at hc1
                      rw [gl_at E2 hltj] at hc2
                      subst hA hB
                      have a0 := (HARA.out.sel HK.out.sel).box.cell 0
                      have a2 := (HARA.out.sel HK.out.sel).box.cell 2
                      have a3 := (HARA.out.sel HK.out.sel).box.cell 3
                      have b2 := (HARB.out.sel HK.out.sel).box.cell 2
                      have b3 := (HARB.out.sel HK.out.sel).box.cell 3
                      have hm1 := nmul 3 i C (by omega)
                      have hm2 := nmul 3 k C2 (by omega)
                      have hd1 := nadd 3 (i * C) k (by omega)
                      have hd2 := nadd 3 (k * C2) j (by omega)
                      have hli1 : ((i * C + k : Nat) : Int) < ((R * C : Nat) : Int) := by omega
                      have hli2 : ((k * C2 + j : Nat) : Int) < ((C * C2 : Nat) : Int) := by omega
                      have HTI := hideIt (fun W => rtimes_any m (E i k) (E2 k j) HM.out (HE.out i k) (HE2.out k j) W)
                      have hsl : sm k (fun t => mul m (E i t) (E2 t j)) < 2 ^ m := sm_lt fun t _ => mul_lt HM.out _ (HE.out i t)
                      have hml : mul m (E i k) (E2 k j) < 2 ^ m := mul_lt HM.out _ (HE.out i k)
                      have hx := nxor 3 (sm k (fun t => mul m (E i t) (E2 t j))) (mul m (E i k) (E2 k j)) (Nat.lt_of_lt_of_le hsl (Nat.le_trans (fm_big HM.out) (by decide))) (Nat.lt_of_lt_of_le hml (Nat.le_trans (fm_big HM.out) (by decide)))
                      have HNX : Hid (sm k (fun t => mul m (E i t) (E2 t j)) ^^^ mul m (E i k) (E2 k j) = sm (k + 1) (fun t => mul m (E i t) (E2 t j))) := hideIt rfl
                      have HMKK := hideIt HK.out
                      clear HK hIA hIB hl1 hl2 hsl hml HMJ
                      generalize sm k (fun t => mul m (E i t) (E2 t j)) = sk at *
                      generalize mul m (E i k) (E2 k j) = pk at *
                      generalize sk ^^^ pk = sk2 at *
                      generalize E i k = xk at *
                      generalize E2 k j = yk at *
                      generalize i * C + k = y1 at *
                      generalize k * C2 + j = y2 at *
                      generalize i * C = y3 at *
                      generalize k * C2 = y4 at *
                      generalize R * C = n1 at *
                      generalize C * C2 = n2 at *
                      go_wp2_with fail
                      go_quiet ((go_at_call 39; refine (HTI.out _).mono ?_; rintro e w' ⟨rfl, hw⟩; exact ⟨rfl, _, hw.symm⟩))
                      go_wp2_with fail
                      go_roundg (gk - 1)
                      case measure => omega
                      case rel => exact ⟨k + 1, by omega, by go_num, by rw [← HNX.out], HMKK.out.below (below_drewN (Below.refl _ _) _)⟩
                    · have hkC : ¬ (k : Int) < (C : Int) := by omega
                      obtain rfl : k = C := by omega
                      have a2 := (HARA.out.sel HK.out.sel).box.cell 2
                      have b2 := HK.out.box.cell 2
                      have b3 := HK.out.box.cell 3
                      obtain ⟨hcell, hfr⟩ := HK.out.cell (i := i) (j := j) hlt hltj
                      have hm1 := nmul 3 i C2 (by have := ix_lt hlt hltj; omega)
                      have hd1 := nadd 3 (i * C2) j (by have := ix_lt hlt hltj; omega)
                      have hl1 := ix_lt hlt hltj
                      have hli1 : ((i * C2 + j : Nat) : Int) < ((R * C2 : Nat) : Int) := by omega
                      have HST := hideIt (HK.out.store (x := sm k (fun t => mul m (E i t) (E2 t j))) hlt hltj)
                      have HNX : Hid (∀ x, x = sm k (fun t => mul m (E i t) (E2 t j)) → upd2 (mpK m k E E2 i j) i j x = mpK m k E E2 i (j + 1)) := hideIt (fun x hx => mpK_next m k E E2 i j x hx)
                      clear HK hl1 HMJ
                      generalize sm k (fun t => mul m (E i t) (E2 t j)) = sk at *
                      generalize mpK m k E E2 i j i j = y0 at hcell
                      generalize i * C2 + j = y1 at *
                      generalize i * C2 = y3 at *
                      generalize R * C2 = n1 at *
                      go_wp2_with fail
                      go_roundg (g2 - 1)
                      case measure => omega
                      case rel => exact ⟨j + 1, by omega, by go_num, by have h := HST.out; rw [HNX.out _ rfl] at h; exact h⟩
                · have hjC : ¬ (j : Int) < (C2 : Int) := by omega
                  obtain rfl : j = C2 := by omega
                  have b2 := (HARB.out.sel HJ.out.sel).box.cell 2
                  have HMJ := hideIt (HJ.out.congr (fun r q hr hq => mpK_row m C E E2 i r q hq))
                  clear HJ HMK
                  go_wp2_with fail
                  go_roundg (g1 - 1)
                  case measure => omega
                  case rel => exact ⟨i + 1, by omega, by go_num, HMJ.out⟩
            · have hiR : ¬ (i : Int) < (R : Int) := by omega
              obtain rfl : i = R := by omega
              have a1 := (HARA.out.sel HI.out.sel).box.cell 1
              have HMK := hideIt (HI.out.congr (N := mm m C E E2) (fun r q hr hq => by unfold mpK; rw [if_pos (by omega)]))
              clear HI HM0
              go_wp2_with (first
                | ((with_reducible refine at_load ?_); refine wpList_ldM rfl (.tmp 8) rfl p6 _ _ _ _ rfl HMK.out.box ?_)
                | ((with_reducible refine at_store ?_); refine wpList_stM rfl (.tmp 4) (.tmp 98) rfl (w.heap.size + 1 + 1) _ _ _ _ _ _ _ _ rfl rfl rfl HMK.out.res ?_; intro w8 HT8 HB8))
              refine bodyPost_ret (results_two rfl _ _ (w.heap.size + 1 + 1) _ _ _ rfl HB8.out Tryd.underlying24 rfl isz4) rfl ?_
              rw [HR2.out]
              exact HMK.out.fin (by omega) (by omega) HT8.out

        · rw [hva] at HVA
          rw [hvb] at HVB
          have HR2 : Hid (r = (zeroM, 1)) := hideIt (by rw [HR.out]; unfold mulM; rw [if_neg (fun h => hC h.2.2.2)])
          have hq1 := int_neqF6 3 hF
          have hq2 := int_neqT6 3 hC
          clear hva hvb hF hC hsa hsb HR
          generalize a.l.length = na at *
          generalize b.l.length = nb at *
          generalize a.F = Fa at *
          generalize a.R = Ra at *
          generalize a.C = Ca at *
          generalize b.F = Fb at *
          generalize b.R = Rb at *
          generalize b.C = Cb at *
          obtain ⟨w1, hw1⟩ : ∃ w1, w1 = ((w.alloc (.cells #[.int .i64 Fa, .int .i64 Ra, .int .i64 Ca, .slice A na ca] 24)).alloc (.cells #[.int .i64 Fb, .int .i64 Rb, .int .i64 Cb, .slice B nb cb] 24)).alloc (.cells #[.int .i64 0, .int .i64 0, .int .i64 0, .slice none 0 0] 24) := ⟨_, rfl⟩
          have hw01 : Below w.heap.size w w1 := by rw [hw1]; exact (((Below.refl _ w).alloc (Nat.le_refl _) _).alloc (by simp) _).alloc (by simp; omega) _
          have hba : Blk w1 w.heap.size 24 (mtC Fa Ra Ca (.slice A na ca)) := by rw [hw1]; exact ((Blk.new w _ _).alloc _).alloc _
          have hbb : Blk w1 (w.heap.size + 1) 24 (mtC Fb Rb Cb (.slice B nb cb)) := by rw [hw1]; exact (Blk.new2 w _ _ _).alloc _
          have hpr : Blk w1 (w.heap.size + 1 + 1) 24 (mtC 0 0 0 (.slice none 0 0)) := by
            rw [hw1]
            have h := Blk.new ((w.alloc (.cells #[.int .i64 Fa, .int .i64 Ra, .int .i64 Ca, .slice A na ca] 24)).alloc (.cells #[.int .i64 Fb, .int .i64 Rb, .int .i64 Cb, .slice B nb cb] 24)) 24 (mtC 0 0 0 (.slice none 0 0))
            rw [World.size_alloc, World.size_alloc] at h
            exact h
          have HW1 := hideIt hw1
          have HW01 := hideIt hw01
          have HBA := hideIt hba
          have HBB := hideIt hbb
          have HPR := hideIt hpr
          have a0 := hba.cell 0
          have a1 := hba.cell 1
          have a2 := hba.cell 2
          have a3 := hba.cell 3
          clear hw1 hw01 hba hbb hpr
          go_enter Tryd.func13, Tryd.ntmps13
          go_wp2_with fail
          rw [← HW1.out]
          refine (HVA.out w1 HW01.out).mono ?_
          rintro e w2 ⟨rfl, hb2⟩
          have HBA2 := hideIt (HBA.out.kept hb2 HBA.out.lt)
          have HBB2 := hideIt (HBB.out.kept hb2 HBB.out.lt)
          have HPR2 := hideIt (HPR.out.kept hb2 HPR.out.lt)
          have HW02 := hideIt (HW01.out.trans (hb2.mono HW01.out.size))
          clear hb2 HW1 HW01 HBA HBB HPR HVA a0 a1 a2 a3
          have b0 := HBB2.out.cell 0
          have b1 := HBB2.out.cell 1
          have b2 := HBB2.out.cell 2
          have b3 := HBB2.out.cell 3
          go_wp2_with fail
          refine (HVB.out w2 HW02.out).mono ?_
          rintro e w3 ⟨rfl, hb3⟩
          have HBA3 := hideIt (HBA2.out.kept hb3 HBA2.out.lt)
          have HBB3 := hideIt (HBB2.out.kept hb3 HBB2.out.lt)
          have HPR3 := hideIt (HPR2.out.kept hb3 HPR2.out.lt)
          have HW03 := hideIt (HW02.out.trans (hb3.mono HW02.out.size))
          clear b0 b1 b2 b3 hb3 HW02 HBA2 HBB2 HPR2 HVB
          have a0 := HBA3.out.cell 0
          have a1 := HBA3.out.cell 1
          have a2 := HBA3.out.cell 2
          have b0 := HBB3.out.cell 0
          have b1 := HBB3.out.cell 1
          have b2 := HBB3.out.cell 2
          go_wp2_with ((with_reducible refine at_store ?_); refine wpList_stM rfl (.tmp 4) (.tmp 37) rfl (w.heap.size + 1 + 1) 0 0 0 0 0 0 (.slice none 0 0) (.slice none 0 0) rfl rfl rfl HPR3.out ?_; intro w8 HT8 HB8)
          refine bodyPost_ret (results_two rfl _ _ (w.heap.size + 1 + 1) _ _ _ rfl HB8.out Tryd.underlying24 rfl isz4) rfl ?_
          rw [HR2.out]
          exact MRes.bad (HT8.out.below HW03.out (by omega)) 1
      · rw [hva] at HVA
        rw [hvb] at HVB
        have HR2 : Hid (r = (zeroM, 1)) := hideIt (by rw [HR.out]; unfold mulM; rw [if_neg (fun h => hF h.2.2.1)])
        have hq1 := int_neqT6 3 hF
        clear hva hvb hF hsa hsb HR
        generalize a.l.length = na at *
        generalize b.l.length = nb at *
        generalize a.F = Fa at *
        generalize a.R = Ra at *
        generalize a.C = Ca at *
        generalize b.F = Fb at *
        generalize b.R = Rb at *
        generalize b.C = Cb at *
        obtain ⟨w1, hw1⟩ : ∃ w1, w1 = ((w.alloc (.cells #[.int .i64 Fa, .int .i64 Ra, .int .i64 Ca, .slice A na ca] 24)).alloc (.cells #[.int .i64 Fb, .int .i64 Rb, .int .i64 Cb, .slice B nb cb] 24)).alloc (.cells #[.int .i64 0, .int .i64 0, .int .i64 0, .slice none 0 0] 24) := ⟨_, rfl⟩
        have hw01 : Below w.heap.size w w1 := by rw [hw1]; exact (((Below.refl _ w).alloc (Nat.le_refl _) _).alloc (by simp) _).alloc (by simp; omega) _
        have hba : Blk w1 w.heap.size 24 (mtC Fa Ra Ca (.slice A na ca)) := by rw [hw1]; exact ((Blk.new w _ _).alloc _).alloc _
        have hbb : Blk w1 (w.heap.size + 1) 24 (mtC Fb Rb Cb (.slice B nb cb)) := by rw [hw1]; exact (Blk.new2 w _ _ _).alloc _
        have hpr : Blk w1 (w.heap.size + 1 + 1) 24 (mtC 0 0 0 (.slice none 0 0)) := by
          rw [hw1]
          have h := Blk.new ((w.alloc (.cells #[.int .i64 Fa, .int .i64 Ra, .int .i64 Ca, .slice A na ca] 24)).alloc (.cells #[.int .i64 Fb, .int .i64 Rb, .int .i64 Cb, .slice B nb cb] 24)) 24 (mtC 0 0 0 (.slice none 0 0))
          rw [World.size_alloc, World.size_alloc] at h
          exact h
        have HW1 := hideIt hw1
        have HW01 := hideIt hw01
        have HBA := hideIt hba
        have HBB := hideIt hbb
        have HPR := hideIt hpr
        have a0 := hba.cell 0
        have a1 := hba.cell 1
        have a2 := hba.cell 2
        have a3 := hba.cell 3
        clear hw1 hw01 hba hbb hpr
        go_enter Tryd.func13, Tryd.ntmps13
        go_wp2_with fail
        rw [← HW1.out]
        refine (HVA.out w1 HW01.out).mono ?_
        rintro e w2 ⟨rfl, hb2⟩
        have HBA2 := hideIt (HBA.out.kept hb2 HBA.out.lt)
        have HBB2 := hideIt (HBB.out.kept hb2 HBB.out.lt)
        have HPR2 := hideIt (HPR.out.kept hb2 HPR.out.lt)
        have HW02 := hideIt (HW01.out.trans (hb2.mono HW01.out.size))
        clear hb2 HW1 HW01 HBA HBB HPR HVA a0 a1 a2 a3
        have b0 := HBB2.out.cell 0
        have b1 := HBB2.out.cell 1
        have b2 := HBB2.out.cell 2
        have b3 := HBB2.out.cell 3
        go_wp2_with fail
        refine (HVB.out w2 HW02.out).mono ?_
        rintro e w3 ⟨rfl, hb3⟩
        have HBA3 := hideIt (HBA2.out.kept hb3 HBA2.out.lt)
        have HBB3 := hideIt (HBB2.out.kept hb3 HBB2.out.lt)
        have HPR3 := hideIt (HPR2.out.kept hb3 HPR2.out.lt)
        have HW03 := hideIt (HW02.out.trans (hb3.mono HW02.out.size))
        clear b0 b1 b2 b3 hb3 HW02 HBA2 HBB2 HPR2 HVB
        have a0 := HBA3.out.cell 0
        have a1 := HBA3.out.cell 1
        have a2 := HBA3.out.cell 2
        have b0 := HBB3.out.cell 0
        have b1 := HBB3.out.cell 1
        have b2 := HBB3.out.cell 2
        go_wp2_with ((with_reducible refine at_store ?_); refine wpList_stM rfl (.tmp 4) (.tmp 37) rfl (w.heap.size + 1 + 1) 0 0 0 0 0 0 (.slice none 0 0) (.slice none 0 0) rfl rfl rfl HPR3.out ?_; intro w8 HT8 HB8)
        refine bodyPost_ret (results_two rfl _ _ (w.heap.size + 1 + 1) _ _ _ rfl HB8.out Tryd.underlying24 rfl isz4) rfl ?_
        rw [HR2.out]
        exact MRes.bad (HT8.out.below HW03.out (by omega)) 1
    · rw [hva] at HVA
      rw [Bool.eq_false_iff.2 hvb] at HVB
      have HR2 : Hid (r = (zeroM, 1)) := hideIt (by rw [HR.out]; unfold mulM; rw [if_neg (fun h => hvb h.2.1)])
      clear hva hvb hsa hsb HR
      generalize a.l.length = na at *
      generalize b.l.length = nb at *
      generalize a.F = Fa at *
      generalize a.R = Ra at *
      generalize a.C = Ca at *
      generalize b.F = Fb at *
      generalize b.R = Rb at *
      generalize b.C = Cb at *
      obtain ⟨w1, hw1⟩ : ∃ w1, w1 = ((w.alloc (.cells #[.int .i64 Fa, .int .i64 Ra, .int .i64 Ca, .slice A na ca] 24)).alloc (.cells #[.int .i64 Fb, .int .i64 Rb, .int .i64 Cb, .slice B nb cb] 24)).alloc (.cells #[.int .i64 0, .int .i64 0, .int .i64 0, .slice none 0 0] 24) := ⟨_, rfl⟩
      have hw01 : Below w.heap.size w w1 := by rw [hw1]; exact (((Below.refl _ w).alloc (Nat.le_refl _) _).alloc (by simp) _).alloc (by simp; omega) _
      have hba : Blk w1 w.heap.size 24 (mtC Fa Ra Ca (.slice A na ca)) := by rw [hw1]; exact ((Blk.new w _ _).alloc _).alloc _
      have hbb : Blk w1 (w.heap.size + 1) 24 (mtC Fb Rb Cb (.slice B nb cb)) := by rw [hw1]; exact (Blk.new2 w _ _ _).alloc _
      have hpr : Blk w1 (w.heap.size + 1 + 1) 24 (mtC 0 0 0 (.slice none 0 0)) := by
        rw [hw1]
        have h := Blk.new ((w.alloc (.cells #[.int .i64 Fa, .int .i64 Ra, .int .i64 Ca, .slice A na ca] 24)).alloc (.cells #[.int .i64 Fb, .int .i64 Rb, .int .i64 Cb, .slice B nb cb] 24)) 24 (mtC 0 0 0 (.slice none 0 0))
        rw [World.size_alloc, World.size_alloc] at h
        exact h
      have HW1 := hideIt hw1
      have HW01 := hideIt hw01
      have HBA := hideIt hba
      have HBB := hideIt hbb
      have HPR := hideIt hpr
      have a0 := hba.cell 0
      have a1 := hba.cell 1
      have a2 := hba.cell 2
      have a3 := hba.cell 3
      clear hw1 hw01 hba hbb hpr
      go_enter Tryd.func13, Tryd.ntmps13
      go_wp2_with fail
      rw [← HW1.out]
      refine (HVA.out w1 HW01.out).mono ?_
      rintro e w2 ⟨rfl, hb2⟩
      have HBA2 := hideIt (HBA.out.kept hb2 HBA.out.lt)
      have HBB2 := hideIt (HBB.out.kept hb2 HBB.out.lt)
      have HPR2 := hideIt (HPR.out.kept hb2 HPR.out.lt)
      have HW02 := hideIt (HW01.out.trans (hb2.mono HW01.out.size))
      clear hb2 HW1 HW01 HBA HBB HPR HVA a0 a1 a2 a3
      have b0 := HBB2.out.cell 0
      have b1 := HBB2.out.cell 1
      have b2 := HBB2.out.cell 2
      have b3 := HBB2.out.cell 3
      go_wp2_with fail
      refine (HVB.out w2 HW02.out).mono ?_
      rintro e w3 ⟨rfl, hb3⟩
      have HBA3 := hideIt (HBA2.out.kept hb3 HBA2.out.lt)
      have HBB3 := hideIt (HBB2.out.kept hb3 HBB2.out.lt)
      have HPR3 := hideIt (HPR2.out.kept hb3 HPR2.out.lt)
      have HW03 := hideIt (HW02.out.trans (hb3.mono HW02.out.size))
      clear b0 b1 b2 b3 hb3 HW02 HBA2 HBB2 HPR2 HVB
      have a0 := HBA3.out.cell 0
      have a1 := HBA3.out.cell 1
      have a2 := HBA3.out.cell 2
      have b0 := HBB3.out.cell 0
      have b1 := HBB3.out.cell 1
      have b2 := HBB3.out.cell 2
      go_wp2_with ((with_reducible refine at_store ?_); refine wpList_stM rfl (.tmp 4) (.tmp 37) rfl (w.heap.size + 1 + 1) 0 0 0 0 0 0 (.slice none 0 0) (.slice none 0 0) rfl rfl rfl HPR3.out ?_; intro w8 HT8 HB8)
      refine bodyPost_ret (results_two rfl _ _ (w.heap.size + 1 + 1) _ _ _ rfl HB8.out Tryd.underlying24 rfl isz4) rfl ?_
      rw [HR2.out]
      exact MRes.bad (HT8.out.below HW03.out (by omega)) 1
  · rw [Bool.eq_false_iff.2 hva] at HVA
    have HR2 : Hid (r = (zeroM, 1)) := hideIt (by rw [HR.out]; unfold mulM; rw [if_neg (fun h => hva h.1)])
    clear hva hsa hsb HR
    generalize vM b = vb at *
    generalize a.l.length = na at *
    generalize b.l.length = nb at *
    generalize a.F = Fa at *
    generalize a.R = Ra at *
    generalize a.C = Ca at *
    generalize b.F = Fb at *
    generalize b.R = Rb at *
    generalize b.C = Cb at *
    obtain ⟨w1, hw1⟩ : ∃ w1, w1 = ((w.alloc (.cells #[.int .i64 Fa, .int .i64 Ra, .int .i64 Ca, .slice A na ca] 24)).alloc (.cells #[.int .i64 Fb, .int .i64 Rb, .int .i64 Cb, .slice B nb cb] 24)).alloc (.cells #[.int .i64 0, .int .i64 0, .int .i64 0, .slice none 0 0] 24) := ⟨_, rfl⟩
    have hw01 : Below w.heap.size w w1 := by rw [hw1]; exact (((Below.refl _ w).alloc (Nat.le_refl _) _).alloc (by simp) _).alloc (by simp; omega) _
    have hba : Blk w1 w.heap.size 24 (mtC Fa Ra Ca (.slice A na ca)) := by rw [hw1]; exact ((Blk.new w _ _).alloc _).alloc _
    have hbb : Blk w1 (w.heap.size + 1) 24 (mtC Fb Rb Cb (.slice B nb cb)) := by rw [hw1]; exact (Blk.new2 w _ _ _).alloc _
    have hpr : Blk w1 (w.heap.size + 1 + 1) 24 (mtC 0 0 0 (.slice none 0 0)) := by
      rw [hw1]
      have h := Blk.new ((w.alloc (.cells #[.int .i64 Fa, .int .i64 Ra, .int .i64 Ca, .slice A na ca] 24)).alloc (.cells #[.int .i64 Fb, .int .i64 Rb, .int .i64 Cb, .slice B nb cb] 24)) 24 (mtC 0 0 0 (.slice none 0 0))
      rw [World.size_alloc, World.size_alloc] at h
      exact h
    have HW1 := hideIt hw1
    have HW01 := hideIt hw01
    have HBA := hideIt hba
    have HBB := hideIt hbb
    have HPR := hideIt hpr
    have a0 := hba.cell 0
    have a1 := hba.cell 1
    have a2 := hba.cell 2
    have a3 := hba.cell 3
    clear hw1 hw01 hba hbb hpr
    go_enter Tryd.func13, Tryd.ntmps13
    go_wp2_with fail
    rw [← HW1.out]
    refine (HVA.out w1 HW01.out).mono ?_
    rintro e w2 ⟨rfl, hb2⟩
    have HBA2 := hideIt (HBA.out.kept hb2 HBA.out.lt)
    have HBB2 := hideIt (HBB.out.kept hb2 HBB.out.lt)
    have HPR2 := hideIt (HPR.out.kept hb2 HPR.out.lt)
    have HW02 := hideIt (HW01.out.trans (hb2.mono HW01.out.size))
    clear hb2 HW1 HW01 HBA HBB HPR HVA a0 a1 a2 a3
    have b0 := HBB2.out.cell 0
    have b1 := HBB2.out.cell 1
    have b2 := HBB2.out.cell 2
    have b3 := HBB2.out.cell 3
    go_wp2_with fail
    refine (HVB.out w2 HW02.out).mono ?_
    rintro e w3 ⟨rfl, hb3⟩
    have HBA3 := hideIt (HBA2.out.kept hb3 HBA2.out.lt)
    have HBB3 := hideIt (HBB2.out.kept hb3 HBB2.out.lt)
    have HPR3 := hideIt (HPR2.out.kept hb3 HPR2.out.lt)
    have HW03 := hideIt (HW02.out.trans (hb3.mono HW02.out.size))
    clear b0 b1 b2 b3 hb3 HW02 HBA2 HBB2 HPR2 HVB
    have a0 := HBA3.out.cell 0
    have a1 := HBA3.out.cell 1
    have a2 := HBA3.out.cell 2
    have b0 := HBB3.out.cell 0
    have b1 := HBB3.out.cell 1
    have b2 := HBB3.out.cell 2
    go_wp2_with ((with_reducible refine at_store ?_); refine wpList_stM rfl (.tmp 4) (.tmp 37) rfl (w.heap.size + 1 + 1) 0 0 0 0 0 0 (.slice none 0 0) (.slice none 0 0) rfl rfl rfl HPR3.out ?_; intro w8 HT8 HB8)
    refine bodyPost_ret (results_two rfl _ _ (w.heap.size + 1 + 1) _ _ _ rfl HB8.out Tryd.underlying24 rfl isz4) rfl ?_
    rw [HR2.out]
    exact MRes.bad (HT8.out.below HW03.out (by omega)) 1

def pkJ (E : Mx) (rows : List Int) (k j : Nat) : Mx := fun r q => if r < k ∨ (r = k ∧ q < j) then E (rows.getD r 0).toNat q else 0
theorem pkJ_next (E : Mx) (rows : List Int) (k j y : Nat) (hy : (rows.getD k 0).toNat = y) : upd2 (pkJ E rows k j) k j (E y j) = pkJ E rows k (j + 1) := by
  funext r q
  unfold upd2 pkJ
  by_cases e : r = k ∧ q = j
  · rw [if_pos e, if_pos (by omega), e.1, e.2, hy]
  · rw [if_neg e]
    by_cases e2 : r < k ∨ (r = k ∧ q < j)
    · rw [if_pos e2, if_pos (by omega)]
    · rw [if_neg e2, if_neg (by omega)]
theorem pkJ_row (E : Mx) (rows : List Int) (k : Nat) {C : Nat} (r q : Nat) (hq : q < C) : pkJ E rows k C r q = pkJ E rows (k + 1) 0 r q := by
  unfold pkJ
  by_cases e : r < k + 1
  · rw [if_pos (by omega), if_pos (by omega)]
  · rw [if_neg (by omega), if_neg (by omega)]

set_option maxHeartbeats 2000000 in
set_option maxRecDepth 100000 in
theorem rpick_any (a : Mt) (rows : List Int) (A B : Option Addr) (c cb : Nat) (w : World) (hs : MIn w a A c) (hB : Sl w w.heap.size B 1 rows.length (rows.map iv)) (hcb : rows.length ≤ cb) (hcm : cb ≤ maxLen) :
    Calls Tryd.prog 17 #[mtV a.F a.R a.C (.slice A a.l.length c), .slice B rows.length cb] w (MRes w (pickM a rows)) := by
  have HV := hideIt (rvalid_b hs)
  obtain ⟨r, hr⟩ : ∃ r, r = pickM a rows := ⟨_, rfl⟩
  rw [← hr]
  have HR := hideIt hr
  unfold maxLen at hcm
  clear hr
  by_cases hv : vM a = true
  · rw [hv] at HV
    by_cases hn : rows.length ≤ 32
    · have HVV := hideIt hv
      obtain ⟨m, R, C, hm, hRl, hCl, hE, ha⟩ := vM_is hv
      have HR0 : Hid (r = if vM a = true ∧ rows.length ≤ 32 ∧ ∀ x ∈ rows, 0 ≤ x ∧ x < a.R then (mkM a.F.toNat rows.length a.C.toNat (fun i j => a.e (rows.getD i 0).toNat j), 0) else (zeroM, 1)) := HR
      clear HR
      generalize a.e = E at ha hE HR0
      subst ha
      obtain ⟨b, o, hI, hb⟩ := mk_cell hs
      have hcap := hs.cap
      rw [mk_len] at HV hcap ⊢
      change Hid (∀ W, Below w.heap.size w W → Calls Tryd.prog 22 #[mtV (m : Int) (R : Int) (C : Int) (.slice A (R * C) c)] W fun e w' => e = .returned (.bool true) ∧ Below W.heap.size W w') at HV
      show Calls Tryd.prog 17 #[mtV (m : Int) (R : Int) (C : Int) (.slice A (R * C) c), .slice B rows.length cb] w _
      change Hid (r = if vM (mkM m R C E) = true ∧ rows.length ≤ 32 ∧ ∀ x ∈ rows, 0 ≤ x ∧ x < (R : Int) then (mkM ((m : Int)).toNat rows.length ((C : Int)).toNat (fun i j => E (rows.getD i 0).toNat j), 0) else (zeroM, 1)) at HR0
      rw [Int.toNat_natCast, Int.toNat_natCast] at HR0
      have HR := hideIt HR0.out
      have HI := hideIt hI
      have HB := hideIt hb
      have HSB := hideIt hB
      have HNL := hideIt hn
      obtain ⟨n, hnn⟩ : ∃ n, n = rows.length := ⟨_, rfl⟩
      rw [← hnn] at hcb hn ⊢
      have HN := hideIt hnn
      have HZS := hideIt (fun W => rzeros_any m n C (by omega) (by omega) W)
      have d1 : decide ((32 : Int) < (n : Int)) = false := decide_eq_false (by omega)
      have hRC : R * C ≤ 32 * 32 := Nat.mul_le_mul hRl hCl
      have hNC : n * C ≤ 32 * 32 := Nat.mul_le_mul hn hCl
      clear hv hE hs hI hb hB hnn HR0
      obtain ⟨w1, hw1⟩ : ∃ w1, w1 = (w.alloc (.cells #[.int .i64 (m : Int), .int .i64 (R : Int), .int .i64 (C : Int), .slice A (R * C) c] 24)).alloc (.cells #[.int .i64 0, .int .i64 0, .int .i64 0, .slice none 0 0] 24) := ⟨_, rfl⟩
      have hw01 : Below w.heap.size w w1 := by rw [hw1]; exact ((Below.refl _ w).alloc (Nat.le_refl _) _).alloc (by simp) _
      have hba : Blk w1 w.heap.size 24 (mtC (m : Int) (R : Int) (C : Int) (.slice A (R * C) c)) := by rw [hw1]; exact (Blk.new w _ _).alloc _
      have hpr : Blk w1 (w.heap.size + 1) 24 (mtC 0 0 0 (.slice none 0 0)) := by rw [hw1]; exact Blk.new2 w _ _ _
      have HW1 := hideIt hw1
      have HW01 := hideIt hw01
      have HBA := hideIt hba
      have HPR := hideIt hpr
      have a0 := hba.cell 0
      have a1 := hba.cell 1
      have a2 := hba.cell 2
      have a3 := hba.cell 3
      clear hw1 hw01 hba hpr
      go_enter Tryd.func17, Tryd.ntmps17
      go_wp2_with fail
      rw [← HW1.out]
      refine (HV.out w1 HW01.out).mono ?_
      rintro e w2 ⟨rfl, hb2⟩
      have HBA2 := hideIt (HBA.out.kept hb2 HBA.out.lt)
      have HPR2 := hideIt (HPR.out.kept hb2 HPR.out.lt)
      have HW02 := hideIt (HW01.out.trans (hb2.mono HW01.out.size))
      have f0 := HBA2.out.cell 0
      have f1 := HBA2.out.cell 1
      have f2 := HBA2.out.cell 2
      clear hb2 HW1 HW01 HBA HPR HV a0 a1 a2 a3
      go_wp2_with (first
        | (go_at_call 38; refine (HZS.out _).mono ?_; rintro e w5 ⟨gp, rfl, hg, hc, hb5⟩; have HMK := hideIt (Mk.start (m := m) HW02.out HPR2.out (Nat.le_succ _) hb5 hg hc rfl); have HB5 := hideIt hb5; have HG := hideIt hg; clear hg hc hb5))
      obtain ⟨w6, hw6⟩ : ∃ w6, w6 = w5.alloc (.cells #[.int .i64 (m : Int), .int .i64 (n : Int), .int .i64 (C : Int), .slice (some ⟨gp, 0, none⟩) (n * C) (n * C)] 24) := ⟨_, rfl⟩
      obtain ⟨p6, hp6⟩ : ∃ p6, p6 = w5.heap.size := ⟨_, rfl⟩
      rw [← hw6, ← hp6]
      have HM0 : Hid (Mk w w6 (w.heap.size + 1) p6 gp m n C w6 (fun _ _ => 0)) := by rw [hw6, hp6]; exact HMK.out
      have HARG := hideIt (ArgM.start HI.out HB.out hcap HBA2.out HM0.out.w06 (show Below w2.heap.size w2 w6 by rw [hw6]; exact HB5.out.alloc HB5.out.size _) HG.out HM0.out.gl0)
      clear hw6 hp6 HMK HB5 HG HI HB HBA2 HPR2 HW02 HZS f0 f1 f2
      go_loopg [8] n (fun gk s8 wr => ∃ k : Nat, k + gk = n ∧ s8 = .int .i64 (k : Int) ∧ Aside (Mk w w6 (w.heap.size + 1) p6 gp m n C wr (pkJ E rows k 0) ∧ ∀ x ∈ rows.take k, 0 ≤ x ∧ x < (R : Int)))
      case atStart => exact ⟨0, by omega, rfl, HM0.out.congr (fun i j _ _ => by unfold pkJ; rw [if_neg (by omega)]), fun x hx => by simp at hx⟩
      case round =>
        obtain ⟨k, hk, rfl, HI⟩ := hrel
        by_cases hlt : k < n
        · have hinc := inc_c 3 k (by omega)
          have hkn : (k : Int) < (n : Int) := by omega
          have hkl : k < rows.length := by rw [← HN.out]; exact hlt
          obtain ⟨br, og, hA, hbr, hc0⟩ := HSB.out.num hkl
          subst hA
          have HBR := hideIt hbr
          have HC0 := hideIt hc0
          have hcell := (HI.out.1.low.cell (p := ⟨br, og + k, none⟩) hbr).trans hc0
          have HTK := hideIt (take_snoc rows k hkl)
          have HMEM := hideIt (List.getElem_mem hkl)
          have HGD := hideIt (show rows.getD k 0 = rows[k] by rw [List.getD_eq_getElem?_getD, List.getElem?_eq_getElem hkl]; rfl)
          have HMK := hideIt HI.out.1
          have HAL := hideIt HI.out.2
          have g1 := (HARG.out.sel HI.out.1.sel).box.cell 1
          clear hc0 HI HM0 hbr
          generalize rows[k] = x at *
          clear hkl
          by_cases hx0 : 0 ≤ x
          · by_cases hxR : x < (R : Int)
            · obtain ⟨y, rfl⟩ := Int.eq_ofNat_of_zero_le hx0
              have hyR : y < R := by omega
              have d2 : decide ((y : Int) < 0) = false := decide_eq_false (by omega)
              have d3 : decide (R ≤ y) = false := decide_eq_false (by omega)
              have hyR2 : ¬ (R : Int) ≤ (y : Int) := by omega
              have HGY := hideIt (show (rows.getD k 0).toNat = y by rw [HGD.out]; rfl)
              have HXY := hideIt (And.intro hx0 hxR)
              clear hx0 hxR HGD HMEM
              obtain ⟨g2, rfl⟩ : ∃ x, x = gk := ⟨gk, rfl⟩
              go_wp2_with fail
              go_quiet (fail)
              obtain ⟨wa, hwa⟩ : ∃ W, W = wr.drewN nq := ⟨_, rfl⟩
              rw [← hwa]
              have HMA := hideIt (show Mk w w6 (w.heap.size + 1) p6 gp m n C wa (pkJ E rows k 0) by rw [hwa]; exact HMK.out.below (below_drewN (Below.refl _ _) _))
              clear hwa HMK hcell g1
              go_wp2_with fail
              go_loopg [9] C (fun gk s9 wr => ∃ j : Nat, j + gk = C ∧ s9 = .int .i64 (j : Int) ∧ Aside (Mk w w6 (w.heap.size + 1) p6 gp m n C wr (pkJ E rows k j)))
              case atStart => exact ⟨0, by omega, rfl, HMA.out⟩
              case round =>
                obtain ⟨j, hj, rfl, HJ⟩ := hrel
                by_cases hltj : j < C
                · have hincj := inc_c 3 j (by omega)
                  have hjC : (j : Int) < (C : Int) := by omega
                  have hIA := (HARG.out.sel HJ.out.sel).ints
                  have hl1 := ix_lt hyR hltj
                  have hl2 := ix_lt hlt hltj
                  have hA := hIA.adr (by omega)
                  have hc1 := hIA.cell (y * C + j) hl1
                  rw [gl_at E hltj] at hc1
                  subst hA
                  have hc2 := (HJ.out.low.cell (p := ⟨br, og + k, none⟩) HBR.out).trans HC0.out
                  have a2 := (HARG.out.sel HJ.out.sel).box.cell 2
                  have a3 := (HARG.out.sel HJ.out.sel).box.cell 3
                  have b3 := HJ.out.box.cell 3
                  obtain ⟨hc3, hf3⟩ := HJ.out.cell (i := k) (j := j) hlt hltj
                  have hm1 := nmul 3 k C (by omega)
                  have hm2 := nmul 3 y C (by omega)
                  have hd1 := nadd 3 (k * C) j (by omega)
                  have hd2 := nadd 3 (y * C) j (by omega)
                  have hli1 : ((y * C + j : Nat) : Int) < ((R * C : Nat) : Int) := by omega
                  have hli2 : ((k * C + j : Nat) : Int) < ((n * C : Nat) : Int) := by omega
                  have HST := hideIt ((HJ.out.below (Below.refl _ wr).drew).store (x := E y j) hlt hltj)
                  have HNX := hideIt (pkJ_next E rows k j y HGY.out)
                  clear HJ hIA hl1 hl2 HMA
                  generalize E y j = x at hc1 HST HNX
                  generalize pkJ E rows k j k j = y0 at hc3
                  generalize y * C + j = y1 at *
                  generalize k * C + j = y2 at *
                  generalize y * C = y3 at *
                  generalize k * C = y4 at *
                  generalize R * C = n1 at *
                  generalize n * C = n2 at *
                  go_wp2_with fail
                  refine still_tail 22 (by kernel_rfl) (by kernel_rfl) ?_
                  intro w3 hw3
                  have k0 : w3.cell? ⟨b, o + y1, none⟩ = some (.int .i64 (x : Int)) := by rw [hw3]; exact hc1
                  have k1 : w3.cell? ⟨br, og + k, none⟩ = some (.int .i64 (y : Int)) := by rw [hw3]; exact hc2
                  have k2 : w3.cell? ⟨w.heap.size, 2, none⟩ = some (.int .i64 (C : Int)) := by rw [hw3]; exact a2
                  have k3 : w3.cell? ⟨w.heap.size, 3, none⟩ = some (.slice (some ⟨b, o, none⟩) n1 c) := by rw [hw3]; exact a3
                  have l3 : w3.cell? ⟨p6, 3, none⟩ = some (.slice (some ⟨gp, 0, none⟩) n2 n2) := by rw [hw3]; exact b3
                  have l4 : w3.cell? ⟨gp, y2, none⟩ = some (.int .i64 (y0 : Int)) := by rw [hw3]; exact hc3
                  have l5 : w3.frozen? ⟨gp, y2, none⟩ = false := by rw [hw3]; exact hf3
                  rw [← hw3] at HST
                  clear hc1 hc2 a2 a3 b3 hc3 hf3 hw3
                  simp only [List.take_succ_cons, List.take_zero, List.drop_succ_cons, List.drop_zero]
                  repeat still_step
                  refine wpStill_nil ?_
                  go_wp2_with fail
                  go_roundg (gk - 1)
                  case measure => omega
                  case rel => exact ⟨j + 1, by omega, by go_num, by have h := HST.out; rw [HNX.out] at h; exact h⟩
                · have hjC : ¬ (j : Int) < (C : Int) := by omega
                  obtain rfl : j = C := by omega
                  have a2 := (HARG.out.sel HJ.out.sel).box.cell 2
                  have HM := hideIt (HJ.out.congr (fun r q hr hq => pkJ_row E rows k r q hq))
                  clear HJ HMA
                  go_wp2_with fail
                  go_roundg (g2 - 1)
                  case measure => omega
                  case rel =>
                    refine ⟨k + 1, by omega, by go_num, HM.out, fun z hz => ?_⟩
                    rw [HTK.out] at hz
                    rcases List.mem_append.1 hz with h | h
                    · exact HAL.out z h
                    · rw [List.mem_singleton] at h; rw [h]; exact HXY.out
            · have HR2 : Hid (r = (zeroM, 1)) := hideIt (by rw [HR.out]; exact if_neg (fun h => hxR (h.2.2 x HMEM.out).2))
              have hxR2 : (R : Int) ≤ x := by omega
              have d2 : decide (x < 0) = false := decide_eq_false (by omega)
              have d3 : decide ((R : Int) ≤ x) = true := decide_eq_true (by omega)
              clear hxR
              go_wp2_with fail
              go_quiet (fail)
              obtain ⟨wa, hwa⟩ : ∃ W, W = wr.drewN nq := ⟨_, rfl⟩
              rw [← hwa]
              have HMA := hideIt (show Mk w w6 (w.heap.size + 1) p6 gp m n C wa (pkJ E rows k 0) by rw [hwa]; exact HMK.out.below (below_drewN (Below.refl _ _) _))
              clear hwa HMK hcell g1
              go_wp2_with ((with_reducible refine at_store ?_); refine wpList_stM rfl (.tmp 4) (.tmp 47) rfl (w.heap.size + 1) 0 0 0 0 0 0 (.slice none 0 0) (.slice none 0 0) rfl rfl rfl HMA.out.res ?_; intro w8 HT8 HB8)
              refine bodyPost_ret (results_two rfl _ _ (w.heap.size + 1) _ _ _ rfl HB8.out Tryd.underlying24 rfl isz4) rfl ?_
              rw [HR2.out]
              exact MRes.bad (HT8.out.below HMA.out.low (by omega)) 1
          · have HR2 : Hid (r = (zeroM, 1)) := hideIt (by rw [HR.out]; exact if_neg (fun h => hx0 (h.2.2 x HMEM.out).1))
            have hx1 : x < 0 := by omega
            have d2 : decide (x < 0) = true := decide_eq_true (by omega)
            clear hx0
            go_wp2_with fail
            go_quiet (fail)
            obtain ⟨wa, hwa⟩ : ∃ W, W = wr.drewN nq := ⟨_, rfl⟩
            rw [← hwa]
            have HMA := hideIt (show Mk w w6 (w.heap.size + 1) p6 gp m n C wa (pkJ E rows k 0) by rw [hwa]; exact HMK.out.below (below_drewN (Below.refl _ _) _))
            clear hwa HMK hcell g1
            go_wp2_with ((with_reducible refine at_store ?_); refine wpList_stM rfl (.tmp 4) (.tmp 47) rfl (w.heap.size + 1) 0 0 0 0 0 0 (.slice none 0 0) (.slice none 0 0) rfl rfl rfl HMA.out.res ?_; intro w8 HT8 HB8)
            refine bodyPost_ret (results_two rfl _ _ (w.heap.size + 1) _ _ _ rfl HB8.out Tryd.underlying24 rfl isz4) rfl ?_
            rw [HR2.out]
            exact MRes.bad (HT8.out.below HMA.out.low (by omega)) 1
        · have hkn : ¬ (k : Int) < (n : Int) := by omega
          obtain rfl : k = n := by omega
          have HMK := hideIt (HI.out.1.congr (N := fun i j => E (rows.getD i 0).toNat j) (fun i j hi hj => by unfold pkJ; rw [if_pos (Or.inl hi)]))
          have HR2 : Hid (r = (mkM m k C (fun i j => E (rows.getD i 0).toNat j), 0)) := hideIt (by
            rw [HR.out, HN.out]
            exact if_pos ⟨HVV.out, HNL.out, fun x hx => HI.out.2 x (by rw [List.take_of_length_le (by rw [HN.out]; exact Nat.le_refl _)]; exact hx)⟩)
          clear HI HM0
          go_wp2_with (first
            | ((with_reducible refine at_load ?_); refine wpList_ldM rfl (.tmp 7) rfl p6 _ _ _ _ rfl HMK.out.box ?_)
            | ((with_reducible refine at_store ?_); refine wpList_stM rfl (.tmp 4) (.tmp 76) rfl (w.heap.size + 1) _ _ _ _ _ _ _ _ rfl rfl rfl HMK.out.res ?_; intro w8 HT8 HB8))
          refine bodyPost_ret (results_two rfl _ _ (w.heap.size + 1) _ _ _ rfl HB8.out Tryd.underlying24 rfl isz4) rfl ?_
          rw [HR2.out]
          exact HMK.out.fin (by omega) (by omega) HT8.out
    · have d1 : decide ((32 : Int) < (rows.length : Int)) = true := decide_eq_true (by omega)
      have HR2 : Hid (r = (zeroM, 1)) := hideIt (by rw [HR.out]; exact if_neg (fun h => hn h.2.1))
      clear hv hs HR hn hB
      generalize rows.length = n2 at *
      generalize a.l.length = n at *
      generalize a.F = F at *
      generalize a.R = R at *
      generalize a.C = C at *
      obtain ⟨w1, hw1⟩ : ∃ w1, w1 = (w.alloc (.cells #[.int .i64 F, .int .i64 R, .int .i64 C, .slice A n c] 24)).alloc (.cells #[.int .i64 0, .int .i64 0, .int .i64 0, .slice none 0 0] 24) := ⟨_, rfl⟩
      have hw01 : Below w.heap.size w w1 := by rw [hw1]; exact ((Below.refl _ w).alloc (Nat.le_refl _) _).alloc (by simp) _
      have hba : Blk w1 w.heap.size 24 (mtC F R C (.slice A n c)) := by rw [hw1]; exact (Blk.new w _ _).alloc _
      have hpr : Blk w1 (w.heap.size + 1) 24 (mtC 0 0 0 (.slice none 0 0)) := by rw [hw1]; exact Blk.new2 w _ _ _
      have HW1 := hideIt hw1
      have HW01 := hideIt hw01
      have HBA := hideIt hba
      have HPR := hideIt hpr
      have a0 := hba.cell 0
      have a1 := hba.cell 1
      have a2 := hba.cell 2
      have a3 := hba.cell 3
      clear hw1 hw01 hba hpr
      go_enter Tryd.func17, Tryd.ntmps17
      go_wp2_with fail
      rw [← HW1.out]
      refine (HV.out w1 HW01.out).mono ?_
      rintro e w2 ⟨rfl, hb2⟩
      have HBA2 := hideIt (HBA.out.kept hb2 HBA.out.lt)
      have HPR2 := hideIt (HPR.out.kept hb2 HPR.out.lt)
      have HW02 := hideIt (HW01.out.trans (hb2.mono HW01.out.size))
      have f0 := HBA2.out.cell 0
      have f1 := HBA2.out.cell 1
      have f2 := HBA2.out.cell 2
      clear hb2 HW1 HW01 HBA HPR HV a0 a1 a2 a3
      go_wp2_with ((with_reducible refine at_store ?_); refine wpList_stM rfl (.tmp 4) (.tmp 19) rfl (w.heap.size + 1) 0 0 0 0 0 0 (.slice none 0 0) (.slice none 0 0) rfl rfl rfl HPR2.out ?_; intro w8 HT8 HB8)
      refine bodyPost_ret (results_two rfl _ _ (w.heap.size + 1) _ _ _ rfl HB8.out Tryd.underlying24 rfl isz4) rfl ?_
      rw [HR2.out]
      exact MRes.bad (HT8.out.below HW02.out (by omega)) 1
  · rw [Bool.eq_false_iff.2 hv] at HV
    have HR2 : Hid (r = (zeroM, 1)) := hideIt (by rw [HR.out]; exact if_neg (fun h => hv h.1))
    clear hv hs HR hB
    generalize rows.length = n2 at *
    generalize a.l.length = n at *
    generalize a.F = F at *
    generalize a.R = R at *
    generalize a.C = C at *
    obtain ⟨w1, hw1⟩ : ∃ w1, w1 = (w.alloc (.cells #[.int .i64 F, .int .i64 R, .int .i64 C, .slice A n c] 24)).alloc (.cells #[.int .i64 0, .int .i64 0, .int .i64 0, .slice none 0 0] 24) := ⟨_, rfl⟩
    have hw01 : Below w.heap.size w w1 := by rw [hw1]; exact ((Below.refl _ w).alloc (Nat.le_refl _) _).alloc (by simp) _
    have hba : Blk w1 w.heap.size 24 (mtC F R C (.slice A n c)) := by rw [hw1]; exact (Blk.new w _ _).alloc _
    have hpr : Blk w1 (w.heap.size + 1) 24 (mtC 0 0 0 (.slice none 0 0)) := by rw [hw1]; exact Blk.new2 w _ _ _
    have HW1 := hideIt hw1
    have HW01 := hideIt hw01
    have HBA := hideIt hba
    have HPR := hideIt hpr
    have a0 := hba.cell 0
    have a1 := hba.cell 1
    have a2 := hba.cell 2
    have a3 := hba.cell 3
    clear hw1 hw01 hba hpr
    go_enter Tryd.func17, Tryd.ntmps17
    go_wp2_with fail
    rw [← HW1.out]
    refine (HV.out w1 HW01.out).mono ?_
    rintro e w2 ⟨rfl, hb2⟩
    have HBA2 := hideIt (HBA.out.kept hb2 HBA.out.lt)
    have HPR2 := hideIt (HPR.out.kept hb2 HPR.out.lt)
    have HW02 := hideIt (HW01.out.trans (hb2.mono HW01.out.size))
    have f0 := HBA2.out.cell 0
    have f1 := HBA2.out.cell 1
    have f2 := HBA2.out.cell 2
    clear hb2 HW1 HW01 HBA HPR HV a0 a1 a2 a3
    go_wp2_with ((with_reducible refine at_store ?_); refine wpList_stM rfl (.tmp 4) (.tmp 19) rfl (w.heap.size + 1) 0 0 0 0 0 0 (.slice none 0 0) (.slice none 0 0) rfl rfl rfl HPR2.out ?_; intro w8 HT8 HB8)
    refine bodyPost_ret (results_two rfl _ _ (w.heap.size + 1) _ _ _ rfl HB8.out Tryd.underlying24 rfl isz4) rfl ?_
    rw [HR2.out]
    exact MRes.bad (HT8.out.below HW02.out (by omega)) 1

end Go.Proofs.YtodmcojcmihooaaDoor
