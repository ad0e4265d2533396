/-
  Solve, walked.
-/
import Derived.Test.YtodmcojcmihooaaDoorMatS2
namespace Go.Proofs.YtodmcojcmihooaaDoor
open Go.RowKit
set_option linter.unusedVariables false

set_option maxHeartbeats 2000000 in
set_option maxRecDepth 100000 in
theorem solve_any (a b : Mt) (A B : Option Addr) (ca cb : Nat) (w : World) (hT : Tabs w) (hsa : MIn w a A ca) (hsb : MIn w b B cb) :
    Calls Tryd.prog 32 #[mtV a.F a.R a.C (.slice A a.l.length ca), mtV b.F b.R b.C (.slice B b.l.length cb)] w (MRes w (solveM a b)) := by
  have HVA := hideIt (mvalid_b hT hsa)
  have HVB := hideIt (mvalid_b hT hsb)
  obtain ⟨r, hr⟩ : ∃ r, r = solveM a b := ⟨_, rfl⟩
  rw [← hr]
  have HR := hideIt hr
  clear hr
  by_cases hva : vM a = true
  · by_cases hvb : vM b = true
    · by_cases hF : a.F = b.F
      · by_cases hC : a.R = b.R
        · rw [hva] at HVA
          rw [hvb] at HVB
          obtain ⟨m, R, C, hm, hRl, hCl, hE, ha⟩ := vM_is hva
          obtain ⟨m2, R2, C2, hm2, hRl2, hCl2, hE2, hb⟩ := vM_is hvb
          have HR2 : Hid (r = solF a.F.toNat a.R.toNat a.C.toNat b.C.toNat (red a.F.toNat a.R.toNat (sideM a.C.toNat a.e b.e) a.C.toNat)) := hideIt (by rw [HR.out]; exact if_pos ⟨hva, hvb, hF, hC⟩)
          generalize a.e = E at ha hE HR2
          generalize b.e = E2 at hb hE2 HR2
          subst ha
          subst hb
          have e1 : m = m2 := Int.ofNat.inj hF
          have e2 : R = R2 := Int.ofNat.inj hC
          subst e1 e2
          obtain ⟨ba, oa, hIA, hba0⟩ := mk_cell hsa
          obtain ⟨bb, ob, hIB, hbb0⟩ := mk_cell hsb
          have hcapa := hsa.cap
          have hcapb := hsb.cap
          rw [mk_len] at HVA hcapa
          rw [mk_len] at HVB hcapb
          rw [mk_len, mk_len]
          change Hid (r = solF ((m : Int)).toNat ((R : Int)).toNat ((C : Int)).toNat ((C2 : Int)).toNat (red ((m : Int)).toNat ((R : Int)).toNat (sideM ((C : Int)).toNat E E2) ((C : Int)).toNat)) at HR2
          rw [Int.toNat_natCast, Int.toNat_natCast, Int.toNat_natCast, Int.toNat_natCast] at HR2
          have HIA := hideIt hIA
          have HIB := hideIt hIB
          have HBA0 := hideIt hba0
          have HBB0 := hideIt hbb0
          have HGV := hideIt (side_v (C := C) hE hE2)
          have HM := hideIt hm
          have HTT := hideIt hT
          have HRD := hideIt (red_rd hm R (side_v (C := C) hE hE2) C)
          have hq1 := int_neqF6 3 (a := (m : Int)) rfl
          have hq2 := int_neqF6 3 (a := (R : Int)) rfl
          clear hva hvb hF hC hsa hsb hT HR hIA hIB hba0 hbb0 hE hE2 hm hm2 hRl2
          show Calls Tryd.prog 32 #[mtV (m : Int) (R : Int) (C : Int) (.slice A (R * C) ca), mtV (m : Int) (R : Int) (C2 : Int) (.slice B (R * C2) cb)] w _
          change Hid (∀ W, Below w.heap.size w W → Calls Tryd.prog 21 #[mtV (m : Int) (R : Int) (C : Int) (.slice A (R * C) ca)] W fun e w' => e = .returned (.bool true) ∧ Below W.heap.size W w') at HVA
          change Hid (∀ W, Below w.heap.size w W → Calls Tryd.prog 21 #[mtV (m : Int) (R : Int) (C2 : Int) (.slice B (R * C2) cb)] W fun e w' => e = .returned (.bool true) ∧ Below W.heap.size W w') at HVB
          obtain ⟨w1, hw1⟩ : ∃ w1, w1 = ((w.alloc (.cells #[.int .i64 (m : Int), .int .i64 (R : Int), .int .i64 (C : Int), .slice A (R * C) ca] 24)).alloc (.cells #[.int .i64 (m : Int), .int .i64 (R : Int), .int .i64 (C2 : Int), .slice B (R * C2) cb] 24)).alloc (.cells #[.int .i64 0, .int .i64 0, .int .i64 0, .slice none 0 0] 24) := ⟨_, rfl⟩
          have hw01 : Below w.heap.size w w1 := by rw [hw1]; exact (((Below.refl _ w).alloc (Nat.le_refl _) _).alloc (by simp) _).alloc (by simp; omega) _
          have hba : Blk w1 w.heap.size 24 (mtC (m : Int) (R : Int) (C : Int) (.slice A (R * C) ca)) := by rw [hw1]; exact ((Blk.new w _ _).alloc _).alloc _
          have hbb : Blk w1 (w.heap.size + 1) 24 (mtC (m : Int) (R : Int) (C2 : Int) (.slice B (R * C2) cb)) := by rw [hw1]; exact (Blk.new2 w _ _ _).alloc _
          have hpr : Blk w1 (w.heap.size + 1 + 1) 24 (mtC 0 0 0 (.slice none 0 0)) := by
            rw [hw1]
            have h := Blk.new ((w.alloc (.cells #[.int .i64 (m : Int), .int .i64 (R : Int), .int .i64 (C : Int), .slice A (R * C) ca] 24)).alloc (.cells #[.int .i64 (m : Int), .int .i64 (R : Int), .int .i64 (C2 : Int), .slice B (R * C2) cb] 24)) 24 (mtC 0 0 0 (.slice none 0 0))
            rw [World.size_alloc, World.size_alloc] at h
            exact h
          have HW1 := hideIt hw1
          have HW01 := hideIt hw01
          have HBA := hideIt hba
          have HBB := hideIt hbb
          have HPR := hideIt hpr
          clear hw1 hw01 hba hbb hpr
          go_enter Tryd.func32, Tryd.ntmps32
          go_wp2_with fail
          rw [← HW1.out]
          refine (HVA.out w1 HW01.out).mono ?_
          rintro e w2 ⟨rfl, hb2⟩
          have HBA2 := hideIt (HBA.out.kept hb2 HBA.out.lt)
          have HBB2 := hideIt (HBB.out.kept hb2 HBB.out.lt)
          have HPR2 := hideIt (HPR.out.kept hb2 HPR.out.lt)
          have HW02 := hideIt (HW01.out.trans (hb2.mono HW01.out.size))
          clear hb2 HW1 HW01 HBA HBB HPR HVA
          have b0 := HBB2.out.cell 0
          have b1 := HBB2.out.cell 1
          have b2 := HBB2.out.cell 2
          have b3 := HBB2.out.cell 3
          go_wp2_with fail
          refine (HVB.out w2 HW02.out).mono ?_
          rintro e w3 ⟨rfl, hb3⟩
          have HBA3 := hideIt (HBA2.out.kept hb3 HBA2.out.lt)
          have HBB3 := hideIt (HBB2.out.kept hb3 HBB2.out.lt)
          have HPR3 := hideIt (HPR2.out.kept hb3 HPR2.out.lt)
          have HW03 := hideIt (HW02.out.trans (hb3.mono HW02.out.size))
          clear b0 b1 b2 b3 hb3 HW02 HBA2 HBB2 HPR2 HVB
          have a0 := HBA3.out.cell 0
          have a1 := HBA3.out.cell 1
          have a2 := HBA3.out.cell 2
          have b0 := HBB3.out.cell 0
          have b1 := HBB3.out.cell 1
          have b2 := HBB3.out.cell 2
          go_wp2_with ((with_reducible refine at_make ?_); refine wpList_hdrs _ rfl (.tmp 38) (.tmp 38) rfl R rfl rfl (by omega) ?_; intro w4 HB4 HW4)
          obtain ⟨g, hg⟩ : ∃ g, g = w3.heap.size := ⟨_, rfl⟩
          rw [← hg] at HB4 ⊢
          have HGW := hideIt hg
          have hga := HBA3.out.lt
          have hgb := HBB3.out.lt
          have hgp := HPR3.out.lt
          rw [← hg] at hga hgb hgp
          have hw04 := HW03.out.trans (HW4.out.mono HW03.out.size)
          have HW04 := hideIt hw04
          have HARA := hideIt (ArgM.start (gp := g) HIA.out HBA0.out hcapa HBA3.out hw04 HW4.out (by omega) (by omega))
          have HARB := hideIt (ArgM.start (gp := g) HIB.out HBB0.out hcapb HBB3.out hw04 HW4.out (by omega) (by omega))
          have HPR4 := hideIt (HPR3.out.kept HW4.out HPR3.out.lt)
          have hg4 : g < w4.heap.size := HB4.out.lt
          clear hw04 hg HIA HIB HBA0 HBB0 HBA3 HBB3 HPR3 HW03 HW4 a0 a1 a2 b0 b1 b2 hq1 hq2
          go_loopg [42] R (fun gk s42 wr => ∃ (i : Nat) (D : RD), i + gk = R ∧ s42 = .int .i64 (i : Int) ∧ Aside (PM w4 wr g R (C + C2) i D (sideM C E E2)))
          case atStart => exact ⟨0, ⟨fun _ => none, fun _ => 0, fun _ => 0, fun _ => 0⟩, by omega, rfl, ⟨Sel.refl _ _, hg4, by rw [hl_congr (g := fun _ => .slice none 0 0) (fun k _ => by rw [if_neg (by omega)])]; exact HB4.out, fun k hk => absurd hk (Nat.not_lt_zero _), fun k hk => absurd hk (Nat.not_lt_zero _), fun _ k hk => absurd hk (Nat.not_lt_zero _), fun _ k hk => absurd hk (Nat.not_lt_zero _), fun _ k l hk => absurd hk (Nat.not_lt_zero _)⟩⟩
          case round =>
            obtain ⟨i, D, hi, rfl, HP0⟩ := hrel
            by_cases hlt : i < R
            · have hinc := inc_c 3 i (by omega)
              have hiR : (i : Int) < (R : Int) := by omega
              obtain ⟨DA, hrow, hints⟩ := HARA.out.row hlt (by omega) (by omega)
              obtain ⟨DB, hrowb, hintsb⟩ := HARB.out.row hlt (by omega) (by omega)
              have HRA := hideIt hrow
              have HRB := hideIt hrowb
              have HP := hideIt HP0.out
              have hARA := HARA.out.sel HP0.out.sel
              have hARB := HARB.out.sel HP0.out.sel
              have HIA := hideIt (show ∀ W, Below wr.heap.size wr W → Ints W DA ba (oa + i * C) C (E i) from fun W hW => (hints.sel HP.out.sel (fun q hq e => HARA.out.bne (by have := ix_lt hlt hq; omega) e)).below hW (fun h0 => Nat.lt_of_lt_of_le (hints.lt h0) HP.out.sel.size))
              have HIB := hideIt (show ∀ W, Below wr.heap.size wr W → Ints W DB bb (ob + i * C2) C2 (E2 i) from fun W hW => (hintsb.sel HP.out.sel (fun q hq e => HARB.out.bne (by have := ix_lt hlt hq; omega) e)).below hW (fun h0 => Nat.lt_of_lt_of_le (hintsb.lt h0) HP.out.sel.size))
              have HHK : Hid (∀ W' bt, Below wr.heap.size wr W' → Hooks [(4, fun W => Blk W w.heap.size 24 (mtC (m : Int) (R : Int) (C : Int) (.slice A (R * C) ca))), (7, fun W => Blk W (w.heap.size + 1) 24 (mtC (m : Int) (R : Int) (C2 : Int) (.slice B (R * C2) cb)))] bt W') := hideIt (fun W' bt hb' => Hooks.add (hARA.box.kept hb' hARA.box.lt) (Hooks.add (hARB.box.kept hb' hARB.box.lt) (Hooks.nil _ _)))
              clear hrow hrowb hints hintsb hARA hARB HP0 HB4
              have hww : Below wr.heap.size wr wr.drew := (Below.refl _ _).drew
              go_wp2_with fail
              refine loads_begin_n 12 [(4, fun W => Blk W w.heap.size 24 (mtC (m : Int) (R : Int) (C : Int) (.slice A (R * C) ca))), (7, fun W => Blk W (w.heap.size + 1) 24 (mtC (m : Int) (R : Int) (C2 : Int) (.slice B (R * C2) cb)))] rfl (by kernel_rfl) ?_
              refine wpAnyL_move (oi := ⟨some 45, _, _, _, _, _⟩) 0 ?_ rfl (by kernel_rfl) (by kernel_rfl) (by kernel_rfl) (by kernel_rfl) (fun _ _ _ h => h) (by kernel_rfl) ?_ (HHK.out _ _ hww) ?_
              rotate_left
              · intro W'; go_simp; first | done | with_reducible rfl
              try simp only [Act.put]
              try simp only [List.setIfInBounds_toArray]
              try simp only [List.set_cons_succ]
              try simp only [List.set_cons_zero]
              refine wpAnyL_move (oi := ⟨some 46, _, _, _, _, _⟩) 1 ?_ rfl (by kernel_rfl) (by kernel_rfl) (by kernel_rfl) (by kernel_rfl) (fun _ _ _ h => h) (by kernel_rfl) ?_ (HHK.out _ _ hww) ?_
              rotate_left
              · intro W'; go_simp; first | done | with_reducible rfl
              try simp only [Act.put]
              try simp only [List.setIfInBounds_toArray]
              try simp only [List.set_cons_succ]
              try simp only [List.set_cons_zero]
              refine wpAnyL_take (oi := ⟨some 47, _, _, _, _, _⟩) 2 4 (mtV (m : Int) (R : Int) (C : Int) (.slice A (R * C) ca)) _ rfl (by kernel_rfl) (by kernel_rfl) (by kernel_rfl) (by kernel_rfl) (by kernel_rfl) (by kernel_rfl) (.head _) (fun _ _ _ h => h) (by kernel_rfl) (fun W' hW' => exec_ld rfl (ld_mt hW')) (HHK.out _ _ hww) ?_
              try simp only [Act.put]
              try simp only [List.setIfInBounds_toArray]
              try simp only [List.set_cons_succ]
              try simp only [List.set_cons_zero]
              refine wpAnyL_move (oi := ⟨some 48, _, _, _, _, _⟩) 3 ?_ rfl (by kernel_rfl) (by kernel_rfl) (by kernel_rfl) (by kernel_rfl) (fun _ _ _ h => h) (by kernel_rfl) ?_ (HHK.out _ _ hww) ?_
              rotate_left
              · intro W'; go_simp; first | done | with_reducible rfl
              try simp only [Act.put]
              try simp only [List.setIfInBounds_toArray]
              try simp only [List.set_cons_succ]
              try simp only [List.set_cons_zero]
              refine wpAnyL_take (oi := ⟨some 50, _, _, _, _, _⟩) 5 7 (mtV (m : Int) (R : Int) (C2 : Int) (.slice B (R * C2) cb)) _ rfl (by kernel_rfl) (by kernel_rfl) (by kernel_rfl) (by kernel_rfl) (by kernel_rfl) (by kernel_rfl) (.tail _ (.head _)) (fun _ _ _ h => h) (by kernel_rfl) (fun W' hW' => exec_ld rfl (ld_mt hW')) (HHK.out _ _ hww) ?_
              try simp only [Act.put]
              try simp only [List.setIfInBounds_toArray]
              try simp only [List.set_cons_succ]
              try simp only [List.set_cons_zero]
              refine wpAnyL_move (oi := ⟨some 51, _, _, _, _, _⟩) 6 ?_ rfl (by kernel_rfl) (by kernel_rfl) (by kernel_rfl) (by kernel_rfl) (fun _ _ _ h => h) (by kernel_rfl) ?_ (HHK.out _ _ hww) ?_
              rotate_left
              · intro W'; go_simp; first | done | with_reducible rfl
              try simp only [Act.put]
              try simp only [List.setIfInBounds_toArray]
              try simp only [List.set_cons_succ]
              try simp only [List.set_cons_zero]
              have HWW := hideIt hww
              generalize wr.drew = wd at *
              clear hww
              refine wpAnyL_one (o := ⟨some 49, _, _, _, _, _⟩) 4 (by kernel_rfl) rfl (fun K hK => ?_)
              go_wp2_with (go_at_call 36; refine (HRA.out _).mono ?_; rintro e w5 ⟨rfl, hb5⟩; have HW5 := hideIt (HWW.out.trans (hb5.mono HWW.out.size)); clear hb5)
              refine hK _ _ (HHK.out _ _ HW5.out) ?_
              clear hK K
              refine wpAnyL_one (o := ⟨some 52, _, _, _, _, _⟩) 7 (by kernel_rfl) rfl (fun K hK => ?_)
              go_wp2_with (go_at_call 36; refine (HRB.out _).mono ?_; rintro e w6 ⟨rfl, hb6⟩; have HW6 := hideIt (HW5.out.trans (hb6.mono HW5.out.size)); clear hb6)
              refine hK _ _ (HHK.out _ _ HW6.out) ?_
              clear hK K
              refine loads_tail 8 (by kernel_rfl) (by kernel_rfl) (by kernel_rfl) (by kernel_rfl) ?_
              simp only [List.drop_succ_cons, List.drop_zero]
              have HBH := hideIt (Blk.new w6 22 [.slice DA C (ca - i * C), .slice DB C2 (cb - i * C2)])
              have HW7 := hideIt (HW6.out.alloc HW6.out.size (.cells [Value.slice DA C (ca - i * C), .slice DB C2 (cb - i * C2)].toArray 22))
              have HCC := hideIt (concat_any C C2 (by omega) (by omega) (E i) (E2 i) DA DB (ca - i * C) (cb - i * C2) ba (oa + i * C) bb (ob + i * C2) w6.heap.size 2 _ HBH.out (HIA.out _ HW7.out) (HIB.out _ HW7.out))
              go_wp2_with (go_at_call 44; refine HCC.out.mono ?_; rintro e w8 ⟨v, rfl, ho, hb8⟩; obtain ⟨A8, c8, rfl, hc1, hc2⟩ := own_form ho; have HW8 := hideIt (HW7.out.trans (hb8.mono HW7.out.size)); have HO8 := hideIt (own_low ho HW7.out.size); have HC8 := hideIt (And.intro hc1 hc2); have hcell := (HP.out.below HW8.out).blk.cell i |>.trans (hl_at _ hlt); have hfr := (HP.out.below HW8.out).blk.free i; clear ho hb8 hc1 hc2)
              go_roundg (gk - 1)
              case measure => omega
              case rel =>
                obtain ⟨D', hD'⟩ := HP.out.next hlt HW8.out HO8.out HC8.out.1 HC8.out.2
                exact ⟨i + 1, D', by omega, by go_num, hD'⟩
            · have hiR : ¬ (i : Int) < (R : Int) := by omega
              obtain rfl : i = R := by omega
              have hP := HP0.out
              have hb4 : Below g w4 wr := hP.sel.below (by omega) (fun k o hk q => by omega)
              have hbw : Below w.heap.size w wr := HW04.out.trans (hb4.mono (by omega))
              have x0 := (HARA.out.box.kept hb4 (by omega)).cell 0
              have x2 := (HARA.out.box.kept hb4 (by omega)).cell 2
              have HEL := hideIt (elim_any m g g i (C + C2) C i HM.out D _ HGV.out wr (HTT.out.keep hbw) (by have := HTT.out.lo; omega) (by have := hP.sel.size; omega) (by omega) (by omega) (by omega) (hP.em (Nat.le_refl _)))
              have HLOW := hideIt hP.low
              have HB4G := hideIt hb4
              have HBW := hideIt hbw
              have HPS := hideIt hP.sel.size
              clear hP hb4 hbw HP0 HB4
              go_wp2_with fail
              refine HEL.out.mono ?_
              rintro e wE ⟨v, D', rfl, ho, hem, hsel⟩
              generalize red m i (sideM C E E2) C = s0 at *
              obtain ⟨M, pv⟩ := s0
              have hRD := HRD.out
              obtain ⟨Av, cv, rfl, hv1, hv2⟩ := own_form ho
              obtain ⟨bv, hIV, hgv⟩ := own_ints ho
              have hbE : Below g wr wE := hsel.below (by have := HPS.out; omega) (fun k o hk q => by
                rcases q with q | ⟨h0, j, hj, q⟩
                · omega
                · have := HLOW.out h0 j hj
                  omega)
              have HGE := hideIt (HB4G.out.trans hbE)
              have HWE := hideIt (HBW.out.trans (hbE.mono (by omega)))
              have HEM := hideIt hem
              have HIV := hideIt hIV
              have HRD2 : Hid (Rd m i (sideM C E E2) C M pv) := hRD
              have HR3 : Hid (r = solF m i C C2 (M, pv)) := HR2
              obtain ⟨p, hp⟩ : ∃ p, p = pv.length := ⟨_, rfl⟩
              have hpR : p ≤ i := by rw [hp]; exact hRD.len
              have hcut := cut51 (some ⟨g, 0, none⟩) (n := i) (c := i) (p := p) hpR (Nat.le_refl _)
              rw [show (M, pv).snd.length = p from hp.symm]
              have HP := hideIt hp
              have HIV2 : Hid (Ints wE Av bv 0 p (fun k => pv.getD k 0)) := by rw [hp]; exact HIV.out
              obtain ⟨DH, hDH⟩ : ∃ DH, DH = rowA (some ⟨g, 0, none⟩) i p := ⟨_, rfl⟩
              rw [← hDH] at hcut
              have HDH := hideIt hDH
              obtain ⟨q, hq⟩ : ∃ q, q = i - p := ⟨_, rfl⟩
              rw [← hq] at hcut
              have HQ := hideIt hq
              have hqR : p + q = i := by omega
              clear hRD ho hem hsel hIV hgv hbE hp hDH hq HEL HLOW HB4G HBW HRD HR2 HIV x0 x2 hv1 hv2
              go_wp2_with fail
              go_loopg [68] q (fun gk s68 W => ∃ j : Nat, j + gk = q ∧ s68 = .int .i64 (j : Int) ∧ W = wE ∧ Aside (∀ x, x < j → ∀ y, y < C + C2 → M (p + x) y = 0))
              case atStart => exact ⟨0, by omega, rfl, rfl, fun x hx => absurd hx (Nat.not_lt_zero _)⟩
              case round =>
                obtain ⟨j, hj, rfl, rfl, HZ⟩ := hrel
                by_cases hltj : j < q
                · have hincj := inc_c 3 j (by omega)
                  have hjq : (j : Int) < (q : Int) := by omega
                  have hD : DH = some ⟨g, p, none⟩ := by rw [HDH.out, rowA_at rfl (by omega), Nat.zero_add]
                  subst hD
                  have hpj : p + j < i := by omega
                  have hcell := HEM.out.hdr (p + j) hpj
                  have hrw := HEM.out.row (p + j) hpj
                  classical
                  by_cases hx : ∃ y, y < C + C2 ∧ M (p + j) y ≠ 0
                  · have HCF := hideIt (contf_any (C + C2) (by omega) (M (p + j)) (D'.ad (p + j)) (D'.c (p + j)) (D'.b (p + j)) (D'.o (p + j)) wr hrw true (by rw [eq_comm]; exact decide_eq_true hx))
                    have HR4 : Hid (r = (zeroM, 12)) := hideIt (by rw [HR3.out]; exact if_pos ⟨p + j, by rw [HP.out]; exact Nat.le_add_right _ _, hpj, hx⟩)
                    have HPRE := hideIt (HPR4.out.kept HGE.out (by omega))
                    clear hx hrw
                    generalize D'.ad (p + j) = ad at *
                    generalize D'.c (p + j) = cc at *
                    go_wp2_with fail
                    refine HCF.out.mono ?_
                    rintro e w' ⟨rfl, rfl⟩
                    go_wp2_with ((with_reducible refine at_store ?_); refine wpList_stM rfl (.tmp 4) (.tmp 74) rfl (w.heap.size + 1 + 1) 0 0 0 0 0 0 (.slice none 0 0) (.slice none 0 0) rfl rfl rfl HPRE.out ?_; intro w8 HT8 HB8)
                    refine bodyPost_ret (results_two rfl _ _ (w.heap.size + 1 + 1) _ _ _ rfl HB8.out Tryd.underlying24 rfl isz4) rfl ?_
                    rw [HR4.out]
                    exact MRes.bad (HT8.out.below HWE.out (by omega)) 12
                  · have HCF := hideIt (contf_any (C + C2) (by omega) (M (p + j)) (D'.ad (p + j)) (D'.c (p + j)) (D'.b (p + j)) (D'.o (p + j)) wr hrw false (by rw [eq_comm]; exact decide_eq_false hx))
                    have HX := hideIt hx
                    clear hx hrw
                    generalize D'.ad (p + j) = ad at *
                    generalize D'.c (p + j) = cc at *
                    go_wp2_with fail
                    refine HCF.out.mono ?_
                    rintro e w' ⟨rfl, rfl⟩
                    go_wp2_with fail
                    go_roundg (gk - 1)
                    case measure => omega
                    case rel =>
                      refine ⟨j + 1, by omega, by go_num, rfl, fun x hx y hy => ?_⟩
                      by_cases e : x = j
                      · rw [e]
                        exact Classical.byContradiction fun h => HX.out ⟨y, hy, h⟩
                      · exact HZ.out x (by omega) y hy
                · have hjq : ¬ (j : Int) < (q : Int) := by omega
                  obtain rfl : j = q := by omega
                  have HR4 : Hid (r = (mkM m C C2 (solK pv M C p), 0)) := hideIt (by
                    rw [HR3.out, HP.out]
                    refine if_neg (fun ⟨x, h1, h2, y, h3, h4⟩ => h4 ?_)
                    have h1 : pv.length ≤ x := h1
                    have h5 := HZ.out (x - p) (by have := HP.out; omega) y h3
                    rw [show p + (x - p) = x by have := HP.out; omega] at h5
                    exact h5)
                  clear HZ HR3 hcut
                  have hbaE := HARA.out.box.kept HGE.out (by omega)
                  have hbbE := HARB.out.box.kept HGE.out (by omega)
                  have HPRE := hideIt (HPR4.out.kept HGE.out (by omega))
                  have x0 := hbaE.cell 0
                  have x2 := hbaE.cell 2
                  have y2 := hbbE.cell 2
                  have HBAE := hideIt hbaE
                  have HZS := hideIt (zeros_any m C C2 (by omega) (by omega) wr)
                  have hsz := HGE.out.size
                  clear hbaE hbbE
                  go_wp2_with (go_at_call 35; refine HZS.out.mono ?_; rintro e w5 ⟨gp, rfl, hg, hc, hb5⟩; have HMK := hideIt (Mk.start (m := m) HWE.out HPRE.out (by omega) hb5 hg hc rfl); have HB5 := hideIt hb5; have HGP := hideIt hg; clear hg hc hb5)
                  obtain ⟨w6, hw6⟩ : ∃ w6, w6 = w5.alloc (.cells #[.int .i64 (m : Int), .int .i64 (C : Int), .int .i64 (C2 : Int), .slice (some ⟨gp, 0, none⟩) (C * C2) (C * C2)] 24) := ⟨_, rfl⟩
                  obtain ⟨p6, hp6⟩ : ∃ p6, p6 = w5.heap.size := ⟨_, rfl⟩
                  rw [← hw6, ← hp6]
                  have HM0 : Hid (Mk w w6 (w.heap.size + 1 + 1) p6 gp m C C2 w6 (fun _ _ => 0)) := by rw [hw6, hp6]; exact HMK.out
                  have hE6 : Below wr.heap.size wr w6 := by rw [hw6]; exact HB5.out.alloc HB5.out.size _
                  have HEM6 := hideIt (HEM.out.below hE6)
                  have HIV6 := hideIt (HIV2.out.below hE6 HIV2.out.lt)
                  have HBA6 := hideIt (HBAE.out.kept hE6 HBAE.out.lt)
                  have HNE := hideIt (show w.heap.size ≠ gp ∧ g ≠ gp ∧ (0 < C + C2 → ∀ k, k < i → D'.b k ≠ gp) ∧ (0 < p → bv ≠ gp) from ⟨by have := HGP.out; omega, by have := HGP.out; have := HEM.out.glt; omega, fun h0 k hk => by have := HGP.out; have := (HEM.out.row k hk).lt h0; omega, fun h0 => by have := HGP.out; have := HIV2.out.lt h0; omega⟩)
                  clear hw6 hp6 HMK HB5 HGP hE6 HEM HIV2 HBAE HZS x0 x2 y2 hsz HPRE
                  go_loopg [85] p (fun gk s85 wr => ∃ k : Nat, k + gk = p ∧ s85 = .int .i64 (k : Int) ∧ Aside (Mk w w6 (w.heap.size + 1 + 1) p6 gp m C C2 wr (solK pv M C k)))
                  case atStart => exact ⟨0, by omega, rfl, HM0.out.congr (fun i j _ _ => rfl)⟩
                  case round =>
                    obtain ⟨k, hk, rfl, HI⟩ := hrel
                    by_cases hltk : k < p
                    · have hinck := inc_c 3 k (by omega)
                      have hkp : (k : Int) < (p : Int) := by omega
                      have hkpv : k < pv.length := by rw [← HP.out]; exact hltk
                      have hki : k < i := by omega
                      have hkii : (k : Int) < (i : Int) := by omega
                      have HCL := hideIt (HRD2.out.lt k hkpv)
                      have hclt := HRD2.out.lt k hkpv
                      have hV := HIV6.out.sel HI.out.sel (fun x hx e => HNE.out.2.2.2 (by omega) e)
                      have hAv := hV.adr (by omega)
                      have hcell := hV.cell k hltk
                      rw [Nat.zero_add] at hcell
                      subst hAv
                      obtain ⟨D3, hrow3, hints3⟩ := HI.out.rowI hclt (by omega) (by omega)
                      have HRP := hideIt hrow3
                      have HIP := hideIt hints3
                      have HMK := hideIt HI.out
                      have QM := hideIt (show ∀ W, Below wr.heap.size wr W → _ from fun W hW => ld_mt (HMK.out.below hW).box)
                      have QH := hideIt (show ∀ W, Below wr.heap.size wr W → W.cell? ⟨g, k, none⟩ = some (.slice (D'.ad k) (C + C2) (D'.c k)) from fun W hW => (hW.cell (p := ⟨g, k, none⟩) (Nat.lt_of_lt_of_le HEM6.out.glt HMK.out.sel.size)).trans ((HMK.out.sel.cell g k HEM6.out.glt HNE.out.2.1).trans (HEM6.out.hdr k hki)))
                      have QC := hideIt (show ∀ W, Below wr.heap.size wr W → W.cell? ⟨w.heap.size, 2, none⟩ = some (.int .i64 (C : Int)) from fun W hW => ((HMK.out.sel.at_ HBA6.out HNE.out.1).kept hW (Nat.lt_of_lt_of_le HBA6.out.lt HMK.out.sel.size)).cell 2)
                      have hcap := HEM6.out.cap k hki
                      have QS := hideIt (fun W => cut22 (D'.ad k) (n := C + C2) (c := D'.c k) (p := C) (by omega) hcap.1 W)
                      rw [show C + C2 - C = C2 by omega] at QS
                      have HIS := hideIt (show ∀ W, Below wr.heap.size wr W → Ints W (rowA (D'.ad k) (D'.c k) C) (D'.b k) (D'.o k + C) C2 (fun j => M k (C + j)) from fun W hW => by
                        have h1 := (HEM6.out.row k hki).sel HMK.out.sel (fun x hx e => HNE.out.2.2.1 (by omega) k hki e)
                        have h2 := (h1.below hW h1.lt).cut (p := C) (by omega) hcap.1
                        rw [show C + C2 - C = C2 by omega] at h2
                        exact h2)
                      have HNX := hideIt (show ∀ r j, (if r = pv.getD k 0 then M k (C + j) else solK pv M C k r j) = solK pv M C (k + 1) r j from fun r j => rfl)
                      have HFIT := hideIt (show pv.getD k 0 * C2 + C2 ≤ C * C2 by have h := Nat.mul_le_mul_right C2 (show pv.getD k 0 + 1 ≤ C from hclt); rw [Nat.add_mul, Nat.one_mul] at h; exact h)
                      clear hrow3 hints3 hV HI HM0 hcap hkpv
                      generalize rowA (D'.ad k) (D'.c k) C = DS at *
                      generalize pv.getD k 0 = y at *
                      generalize D'.ad k = ad at *
                      generalize D'.c k = cc at *
                      go_wp2_with fail
                      refine calm_tail (C := fun W => Below wr.heap.size wr W) 10 (by kernel_rfl) (by kernel_rfl) (Below.refl _ _).drew ?_
                      simp only [List.take_succ_cons, List.take_zero, List.drop_succ_cons, List.drop_zero]
                      go_big_quiet_want
                      refine quiet_ld 24 (.tmp 11) rfl (mtV (m : Int) (C : Int) (C2 : Int) (.slice (some ⟨gp, 0, none⟩) (C * C2) (C * C2))) (fun W hW => QM.out W hW) ?_
                      go_big_quiet_on
                      try simp only [Act.put]
                      try simp only [List.setIfInBounds_toArray]
                      try simp only [List.set_cons_succ]
                      try simp only [List.set_cons_zero]
                      go_big_quiet_step ((intro _; rfl))
                      go_big_quiet_step ((intro hb; refine (HRP.out _).mono ?_; rintro x wc ⟨rfl, hb2⟩; exact ⟨rfl, hb.trans (hb2.mono hb.size)⟩))
                      go_big_quiet_step ((intro _; rfl))
                      go_big_quiet_step ((intro _; rfl))
                      go_big_quiet_step ((intro _; rfl))
                      go_big_quiet_want
                      refine quiet_run (.slice ad (C + C2) cc) (fun W hW => by have := QH.out W hW; simp [execOp, this, go_sem]) ?_
                      go_big_quiet_on
                      try simp only [Act.put]
                      try simp only [List.setIfInBounds_toArray]
                      try simp only [List.set_cons_succ]
                      try simp only [List.set_cons_zero]
                      go_big_quiet_step ((intro _; rfl))
                      go_big_quiet_want
                      refine quiet_run (.int .i64 (C : Int)) (fun W hW => by have := QC.out W hW; simp [execOp, this, go_sem]) ?_
                      go_big_quiet_on
                      try simp only [Act.put]
                      try simp only [List.setIfInBounds_toArray]
                      try simp only [List.set_cons_succ]
                      try simp only [List.set_cons_zero]
                      go_big_quiet_want
                      refine quiet_run (.slice DS C2 (cc - C)) (fun W hW => exec_sl rfl (QS.out W)) ?_
                      go_big_quiet_on
                      try simp only [Act.put]
                      try simp only [List.setIfInBounds_toArray]
                      try simp only [List.set_cons_succ]
                      try simp only [List.set_cons_zero]
                      refine wpQuiet_nil ?_
                      intro W0 hW0
                      have HM9 := hideIt (HMK.out.below hW0)
                      have HI1 := hideIt (HIP.out W0 hW0)
                      have HI2 := hideIt (HIS.out W0 hW0)
                      clear hW0 QM QH QC QS HRP HIP HIS HMK hcell
                      go_wp2_with ((with_reducible refine at_copy ?_); refine wpList_cpI rfl (.tmp 92) (.tmp 99) rfl D3 DS C2 (C * C2 - y * C2) (cc - C) gp (y * C2) (D'.b k) (D'.o k + C) (fun j => M k (C + j)) ((nl (C * C2) (gl C2 (solK pv M C k))).map iv) rfl rfl HM9.out.cells (by rw [List.length_map, nl_len]; exact HFIT.out) HI1.out.adr HI2.out ?_; intro w9 HI3 HS3)
                      go_roundg (gk - 1)
                      case measure => omega
                      case rel => exact ⟨k + 1, by omega, by go_num, (HM9.out.rowset HCL.out HI3.out HS3.out).congr (fun r j _ _ => HNX.out r j)⟩
                    · have hkp : ¬ (k : Int) < (p : Int) := by omega
                      obtain rfl : k = p := by omega
                      have HMK := hideIt HI.out
                      clear HI HM0
                      go_wp2_with (first
                        | ((with_reducible refine at_load ?_); refine wpList_ldM rfl (.tmp 11) rfl p6 _ _ _ _ rfl HMK.out.box ?_)
                        | ((with_reducible refine at_store ?_); refine wpList_stM rfl (.tmp 4) (.tmp 102) rfl (w.heap.size + 1 + 1) _ _ _ _ _ _ _ _ rfl rfl rfl HMK.out.res ?_; intro w8 HT8 HB8))
                      refine bodyPost_ret (results_two rfl _ _ (w.heap.size + 1 + 1) _ _ _ rfl HB8.out Tryd.underlying24 rfl isz4) rfl ?_
                      rw [HR4.out]
                      exact HMK.out.fin (by omega) (by omega) HT8.out

        · rw [hva] at HVA
          rw [hvb] at HVB
          have HR2 : Hid (r = (zeroM, 1)) := hideIt (by rw [HR.out]; unfold solveM; rw [if_neg (fun h => hC h.2.2.2)])
          have hq1 := int_neqF6 3 hF
          have hq2 := int_neqT6 3 hC
          clear hva hvb hF hC hsa hsb hT HR
          generalize a.l.length = na at *
          generalize b.l.length = nb at *
          generalize a.F = Fa at *
          generalize a.R = Ra at *
          generalize a.C = Ca at *
          generalize b.F = Fb at *
          generalize b.R = Rb at *
          generalize b.C = Cb at *
          obtain ⟨w1, hw1⟩ : ∃ w1, w1 = ((w.alloc (.cells #[.int .i64 Fa, .int .i64 Ra, .int .i64 Ca, .slice A na ca] 24)).alloc (.cells #[.int .i64 Fb, .int .i64 Rb, .int .i64 Cb, .slice B nb cb] 24)).alloc (.cells #[.int .i64 0, .int .i64 0, .int .i64 0, .slice none 0 0] 24) := ⟨_, rfl⟩
          have hw01 : Below w.heap.size w w1 := by rw [hw1]; exact (((Below.refl _ w).alloc (Nat.le_refl _) _).alloc (by simp) _).alloc (by simp; omega) _
          have hba : Blk w1 w.heap.size 24 (mtC Fa Ra Ca (.slice A na ca)) := by rw [hw1]; exact ((Blk.new w _ _).alloc _).alloc _
          have hbb : Blk w1 (w.heap.size + 1) 24 (mtC Fb Rb Cb (.slice B nb cb)) := by rw [hw1]; exact (Blk.new2 w _ _ _).alloc _
          have hpr : Blk w1 (w.heap.size + 1 + 1) 24 (mtC 0 0 0 (.slice none 0 0)) := by
            rw [hw1]
            have h := Blk.new ((w.alloc (.cells #[.int .i64 Fa, .int .i64 Ra, .int .i64 Ca, .slice A na ca] 24)).alloc (.cells #[.int .i64 Fb, .int .i64 Rb, .int .i64 Cb, .slice B nb cb] 24)) 24 (mtC 0 0 0 (.slice none 0 0))
            rw [World.size_alloc, World.size_alloc] at h
            exact h
          have HW1 := hideIt hw1
          have HW01 := hideIt hw01
          have HBA := hideIt hba
          have HBB := hideIt hbb
          have HPR := hideIt hpr
          clear hw1 hw01 hba hbb hpr
          go_enter Tryd.func32, Tryd.ntmps32
          go_wp2_with fail
          rw [← HW1.out]
          refine (HVA.out w1 HW01.out).mono ?_
          rintro e w2 ⟨rfl, hb2⟩
          have HBA2 := hideIt (HBA.out.kept hb2 HBA.out.lt)
          have HBB2 := hideIt (HBB.out.kept hb2 HBB.out.lt)
          have HPR2 := hideIt (HPR.out.kept hb2 HPR.out.lt)
          have HW02 := hideIt (HW01.out.trans (hb2.mono HW01.out.size))
          clear hb2 HW1 HW01 HBA HBB HPR HVA
          have b0 := HBB2.out.cell 0
          have b1 := HBB2.out.cell 1
          have b2 := HBB2.out.cell 2
          have b3 := HBB2.out.cell 3
          go_wp2_with fail
          refine (HVB.out w2 HW02.out).mono ?_
          rintro e w3 ⟨rfl, hb3⟩
          have HBA3 := hideIt (HBA2.out.kept hb3 HBA2.out.lt)
          have HBB3 := hideIt (HBB2.out.kept hb3 HBB2.out.lt)
          have HPR3 := hideIt (HPR2.out.kept hb3 HPR2.out.lt)
          have HW03 := hideIt (HW02.out.trans (hb3.mono HW02.out.size))
          clear b0 b1 b2 b3 hb3 HW02 HBA2 HBB2 HPR2 HVB
          have a0 := HBA3.out.cell 0
          have a1 := HBA3.out.cell 1
          have a2 := HBA3.out.cell 2
          have b0 := HBB3.out.cell 0
          have b1 := HBB3.out.cell 1
          have b2 := HBB3.out.cell 2
          go_wp2_with ((with_reducible refine at_store ?_); refine wpList_stM rfl (.tmp 4) (.tmp 36) rfl (w.heap.size + 1 + 1) 0 0 0 0 0 0 (.slice none 0 0) (.slice none 0 0) rfl rfl rfl HPR3.out ?_; intro w8 HT8 HB8)
          refine bodyPost_ret (results_two rfl _ _ (w.heap.size + 1 + 1) _ _ _ rfl HB8.out Tryd.underlying24 rfl isz4) rfl ?_
          rw [HR2.out]
          exact MRes.bad (HT8.out.below HW03.out (by omega)) 1
      · rw [hva] at HVA
        rw [hvb] at HVB
        have HR2 : Hid (r = (zeroM, 1)) := hideIt (by rw [HR.out]; unfold solveM; rw [if_neg (fun h => hF h.2.2.1)])
        have hq1 := int_neqT6 3 hF
        clear hva hvb hF hsa hsb hT HR
        generalize a.l.length = na at *
        generalize b.l.length = nb at *
        generalize a.F = Fa at *
        generalize a.R = Ra at *
        generalize a.C = Ca at *
        generalize b.F = Fb at *
        generalize b.R = Rb at *
        generalize b.C = Cb at *
        obtain ⟨w1, hw1⟩ : ∃ w1, w1 = ((w.alloc (.cells #[.int .i64 Fa, .int .i64 Ra, .int .i64 Ca, .slice A na ca] 24)).alloc (.cells #[.int .i64 Fb, .int .i64 Rb, .int .i64 Cb, .slice B nb cb] 24)).alloc (.cells #[.int .i64 0, .int .i64 0, .int .i64 0, .slice none 0 0] 24) := ⟨_, rfl⟩
        have hw01 : Below w.heap.size w w1 := by rw [hw1]; exact (((Below.refl _ w).alloc (Nat.le_refl _) _).alloc (by simp) _).alloc (by simp; omega) _
        have hba : Blk w1 w.heap.size 24 (mtC Fa Ra Ca (.slice A na ca)) := by rw [hw1]; exact ((Blk.new w _ _).alloc _).alloc _
        have hbb : Blk w1 (w.heap.size + 1) 24 (mtC Fb Rb Cb (.slice B nb cb)) := by rw [hw1]; exact (Blk.new2 w _ _ _).alloc _
        have hpr : Blk w1 (w.heap.size + 1 + 1) 24 (mtC 0 0 0 (.slice none 0 0)) := by
          rw [hw1]
          have h := Blk.new ((w.alloc (.cells #[.int .i64 Fa, .int .i64 Ra, .int .i64 Ca, .slice A na ca] 24)).alloc (.cells #[.int .i64 Fb, .int .i64 Rb, .int .i64 Cb, .slice B nb cb] 24)) 24 (mtC 0 0 0 (.slice none 0 0))
          rw [World.size_alloc, World.size_alloc] at h
          exact h
        have HW1 := hideIt hw1
        have HW01 := hideIt hw01
        have HBA := hideIt hba
        have HBB := hideIt hbb
        have HPR := hideIt hpr
        clear hw1 hw01 hba hbb hpr
        go_enter Tryd.func32, Tryd.ntmps32
        go_wp2_with fail
        rw [← HW1.out]
        refine (HVA.out w1 HW01.out).mono ?_
        rintro e w2 ⟨rfl, hb2⟩
        have HBA2 := hideIt (HBA.out.kept hb2 HBA.out.lt)
        have HBB2 := hideIt (HBB.out.kept hb2 HBB.out.lt)
        have HPR2 := hideIt (HPR.out.kept hb2 HPR.out.lt)
        have HW02 := hideIt (HW01.out.trans (hb2.mono HW01.out.size))
        clear hb2 HW1 HW01 HBA HBB HPR HVA
        have b0 := HBB2.out.cell 0
        have b1 := HBB2.out.cell 1
        have b2 := HBB2.out.cell 2
        have b3 := HBB2.out.cell 3
        go_wp2_with fail
        refine (HVB.out w2 HW02.out).mono ?_
        rintro e w3 ⟨rfl, hb3⟩
        have HBA3 := hideIt (HBA2.out.kept hb3 HBA2.out.lt)
        have HBB3 := hideIt (HBB2.out.kept hb3 HBB2.out.lt)
        have HPR3 := hideIt (HPR2.out.kept hb3 HPR2.out.lt)
        have HW03 := hideIt (HW02.out.trans (hb3.mono HW02.out.size))
        clear b0 b1 b2 b3 hb3 HW02 HBA2 HBB2 HPR2 HVB
        have a0 := HBA3.out.cell 0
        have a1 := HBA3.out.cell 1
        have a2 := HBA3.out.cell 2
        have b0 := HBB3.out.cell 0
        have b1 := HBB3.out.cell 1
        have b2 := HBB3.out.cell 2
        go_wp2_with ((with_reducible refine at_store ?_); refine wpList_stM rfl (.tmp 4) (.tmp 36) rfl (w.heap.size + 1 + 1) 0 0 0 0 0 0 (.slice none 0 0) (.slice none 0 0) rfl rfl rfl HPR3.out ?_; intro w8 HT8 HB8)
        refine bodyPost_ret (results_two rfl _ _ (w.heap.size + 1 + 1) _ _ _ rfl HB8.out Tryd.underlying24 rfl isz4) rfl ?_
        rw [HR2.out]
        exact MRes.bad (HT8.out.below HW03.out (by omega)) 1
    · rw [hva] at HVA
      rw [Bool.eq_false_iff.2 hvb] at HVB
      have HR2 : Hid (r = (zeroM, 1)) := hideIt (by rw [HR.out]; unfold solveM; rw [if_neg (fun h => hvb h.2.1)])
      clear hva hvb hsa hsb hT HR
      generalize a.l.length = na at *
      generalize b.l.length = nb at *
      generalize a.F = Fa at *
      generalize a.R = Ra at *
      generalize a.C = Ca at *
      generalize b.F = Fb at *
      generalize b.R = Rb at *
      generalize b.C = Cb at *
      obtain ⟨w1, hw1⟩ : ∃ w1, w1 = ((w.alloc (.cells #[.int .i64 Fa, .int .i64 Ra, .int .i64 Ca, .slice A na ca] 24)).alloc (.cells #[.int .i64 Fb, .int .i64 Rb, .int .i64 Cb, .slice B nb cb] 24)).alloc (.cells #[.int .i64 0, .int .i64 0, .int .i64 0, .slice none 0 0] 24) := ⟨_, rfl⟩
      have hw01 : Below w.heap.size w w1 := by rw [hw1]; exact (((Below.refl _ w).alloc (Nat.le_refl _) _).alloc (by simp) _).alloc (by simp; omega) _
      have hba : Blk w1 w.heap.size 24 (mtC Fa Ra Ca (.slice A na ca)) := by rw [hw1]; exact ((Blk.new w _ _).alloc _).alloc _
      have hbb : Blk w1 (w.heap.size + 1) 24 (mtC Fb Rb Cb (.slice B nb cb)) := by rw [hw1]; exact (Blk.new2 w _ _ _).alloc _
      have hpr : Blk w1 (w.heap.size + 1 + 1) 24 (mtC 0 0 0 (.slice none 0 0)) := by
        rw [hw1]
        have h := Blk.new ((w.alloc (.cells #[.int .i64 Fa, .int .i64 Ra, .int .i64 Ca, .slice A na ca] 24)).alloc (.cells #[.int .i64 Fb, .int .i64 Rb, .int .i64 Cb, .slice B nb cb] 24)) 24 (mtC 0 0 0 (.slice none 0 0))
        rw [World.size_alloc, World.size_alloc] at h
        exact h
      have HW1 := hideIt hw1
      have HW01 := hideIt hw01
      have HBA := hideIt hba
      have HBB := hideIt hbb
      have HPR := hideIt hpr
      clear hw1 hw01 hba hbb hpr
      go_enter Tryd.func32, Tryd.ntmps32
      go_wp2_with fail
      rw [← HW1.out]
      refine (HVA.out w1 HW01.out).mono ?_
      rintro e w2 ⟨rfl, hb2⟩
      have HBA2 := hideIt (HBA.out.kept hb2 HBA.out.lt)
      have HBB2 := hideIt (HBB.out.kept hb2 HBB.out.lt)
      have HPR2 := hideIt (HPR.out.kept hb2 HPR.out.lt)
      have HW02 := hideIt (HW01.out.trans (hb2.mono HW01.out.size))
      clear hb2 HW1 HW01 HBA HBB HPR HVA
      have b0 := HBB2.out.cell 0
      have b1 := HBB2.out.cell 1
      have b2 := HBB2.out.cell 2
      have b3 := HBB2.out.cell 3
      go_wp2_with fail
      refine (HVB.out w2 HW02.out).mono ?_
      rintro e w3 ⟨rfl, hb3⟩
      have HBA3 := hideIt (HBA2.out.kept hb3 HBA2.out.lt)
      have HBB3 := hideIt (HBB2.out.kept hb3 HBB2.out.lt)
      have HPR3 := hideIt (HPR2.out.kept hb3 HPR2.out.lt)
      have HW03 := hideIt (HW02.out.trans (hb3.mono HW02.out.size))
      clear b0 b1 b2 b3 hb3 HW02 HBA2 HBB2 HPR2 HVB
      have a0 := HBA3.out.cell 0
      have a1 := HBA3.out.cell 1
      have a2 := HBA3.out.cell 2
      have b0 := HBB3.out.cell 0
      have b1 := HBB3.out.cell 1
      have b2 := HBB3.out.cell 2
      go_wp2_with ((with_reducible refine at_store ?_); refine wpList_stM rfl (.tmp 4) (.tmp 36) rfl (w.heap.size + 1 + 1) 0 0 0 0 0 0 (.slice none 0 0) (.slice none 0 0) rfl rfl rfl HPR3.out ?_; intro w8 HT8 HB8)
      refine bodyPost_ret (results_two rfl _ _ (w.heap.size + 1 + 1) _ _ _ rfl HB8.out Tryd.underlying24 rfl isz4) rfl ?_
      rw [HR2.out]
      exact MRes.bad (HT8.out.below HW03.out (by omega)) 1
  · rw [Bool.eq_false_iff.2 hva] at HVA
    have HR2 : Hid (r = (zeroM, 1)) := hideIt (by rw [HR.out]; unfold solveM; rw [if_neg (fun h => hva h.1)])
    clear hva HVB hsa hsb hT HR
    generalize a.l.length = na at *
    generalize b.l.length = nb at *
    generalize a.F = Fa at *
    generalize a.R = Ra at *
    generalize a.C = Ca at *
    generalize b.F = Fb at *
    generalize b.R = Rb at *
    generalize b.C = Cb at *
    obtain ⟨w1, hw1⟩ : ∃ w1, w1 = ((w.alloc (.cells #[.int .i64 Fa, .int .i64 Ra, .int .i64 Ca, .slice A na ca] 24)).alloc (.cells #[.int .i64 Fb, .int .i64 Rb, .int .i64 Cb, .slice B nb cb] 24)).alloc (.cells #[.int .i64 0, .int .i64 0, .int .i64 0, .slice none 0 0] 24) := ⟨_, rfl⟩
    have hw01 : Below w.heap.size w w1 := by rw [hw1]; exact (((Below.refl _ w).alloc (Nat.le_refl _) _).alloc (by simp) _).alloc (by simp; omega) _
    have hba : Blk w1 w.heap.size 24 (mtC Fa Ra Ca (.slice A na ca)) := by rw [hw1]; exact ((Blk.new w _ _).alloc _).alloc _
    have hbb : Blk w1 (w.heap.size + 1) 24 (mtC Fb Rb Cb (.slice B nb cb)) := by rw [hw1]; exact (Blk.new2 w _ _ _).alloc _
    have hpr : Blk w1 (w.heap.size + 1 + 1) 24 (mtC 0 0 0 (.slice none 0 0)) := by
      rw [hw1]
      have h := Blk.new ((w.alloc (.cells #[.int .i64 Fa, .int .i64 Ra, .int .i64 Ca, .slice A na ca] 24)).alloc (.cells #[.int .i64 Fb, .int .i64 Rb, .int .i64 Cb, .slice B nb cb] 24)) 24 (mtC 0 0 0 (.slice none 0 0))
      rw [World.size_alloc, World.size_alloc] at h
      exact h
    have HW1 := hideIt hw1
    have HW01 := hideIt hw01
    have HBA := hideIt hba
    have HBB := hideIt hbb
    have HPR := hideIt hpr
    clear hw1 hw01 hba hbb hpr
    go_enter Tryd.func32, Tryd.ntmps32
    go_wp2_with fail
    rw [← HW1.out]
    refine (HVA.out w1 HW01.out).mono ?_
    rintro e w2 ⟨rfl, hb2⟩
    have HBA2 := hideIt (HBA.out.kept hb2 HBA.out.lt)
    have HBB2 := hideIt (HBB.out.kept hb2 HBB.out.lt)
    have HPR2 := hideIt (HPR.out.kept hb2 HPR.out.lt)
    have HW02 := hideIt (HW01.out.trans (hb2.mono HW01.out.size))
    clear hb2 HW1 HW01 HBA HBB HPR HVA
    go_wp2_with ((with_reducible refine at_store ?_); refine wpList_stM rfl (.tmp 4) (.tmp 36) rfl (w.heap.size + 1 + 1) 0 0 0 0 0 0 (.slice none 0 0) (.slice none 0 0) rfl rfl rfl HPR2.out ?_; intro w8 HT8 HB8)
    refine bodyPost_ret (results_two rfl _ _ (w.heap.size + 1 + 1) _ _ _ rfl HB8.out Tryd.underlying24 rfl isz4) rfl ?_
    rw [HR2.out]
    exact MRes.bad (HT8.out.below HW02.out (by omega)) 1

end Go.Proofs.YtodmcojcmihooaaDoor
