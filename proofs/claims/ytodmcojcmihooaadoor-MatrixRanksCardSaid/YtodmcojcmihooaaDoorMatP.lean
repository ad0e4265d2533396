/-
  Pick, walked.
-/
import Derived.Test.YtodmcojcmihooaaDoorMatC
namespace Go.Proofs.YtodmcojcmihooaaDoor
open Go.RowKit
set_option linter.unusedVariables false

/-- What Pick answers. -/
def pickM (a : Mt) (rows : List Int) : Mt × Int :=
  if vM a = true ∧ rows.length ≤ 32 ∧ ∀ x ∈ rows, 0 ≤ x ∧ x < a.R then (mkM a.F.toNat rows.length a.C.toNat (fun i j => a.e (rows.getD i 0).toNat j), 0) else (zeroM, 1)
def pkK (E : Mx) (rows : List Int) (k : Nat) : Mx := fun i j => if i < k then E (rows.getD i 0).toNat j else 0
theorem pkK_next (E : Mx) (rows : List Int) (k y : Nat) (hy : (rows.getD k 0).toNat = y) (i j : Nat) : (if i = k then E y j else pkK E rows k i j) = pkK E rows (k + 1) i j := by
  unfold pkK
  by_cases e : i = k
  · subst e
    rw [if_pos rfl, if_pos (by omega), hy]
  · rw [if_neg e]
    by_cases e2 : i < k
    · rw [if_pos e2, if_pos (by omega)]
    · rw [if_neg e2, if_neg (by omega)]

set_option maxHeartbeats 2000000 in
set_option maxRecDepth 100000 in
theorem pick_any (a : Mt) (rows : List Int) (A B : Option Addr) (c cb : Nat) (w : World) (hT : Tabs w) (hs : MIn w a A c) (hB : Sl w w.heap.size B 1 rows.length (rows.map iv)) (hcb : rows.length ≤ cb) (hcm : cb ≤ maxLen) :
    Calls Tryd.prog 16 #[mtV a.F a.R a.C (.slice A a.l.length c), .slice B rows.length cb] w (MRes w (pickM a rows)) := by
  have HV := hideIt (mvalid_b hT hs)
  obtain ⟨r, hr⟩ : ∃ r, r = pickM a rows := ⟨_, rfl⟩
  rw [← hr]
  have HR := hideIt hr
  unfold maxLen at hcm
  clear hr
  by_cases hv : vM a = true
  · rw [hv] at HV
    by_cases hn : rows.length ≤ 32
    · have HZ := hideIt (fun W => isz_any (rows.length : Int) W)
      rw [isz_nat hn] at HZ
      have HVV := hideIt hv
      obtain ⟨m, R, C, hm, hRl, hCl, hE, ha⟩ := vM_is hv
      have HR0 : Hid (r = if vM a = true ∧ rows.length ≤ 32 ∧ ∀ x ∈ rows, 0 ≤ x ∧ x < a.R then (mkM a.F.toNat rows.length a.C.toNat (fun i j => a.e (rows.getD i 0).toNat j), 0) else (zeroM, 1)) := HR
      clear HR
      generalize a.e = E at ha hE HR0
      subst ha
      obtain ⟨b, o, hI, hb⟩ := mk_cell hs
      have hcap := hs.cap
      rw [mk_len] at HV hcap ⊢
      change Hid (∀ W, Below w.heap.size w W → Calls Tryd.prog 21 #[mtV (m : Int) (R : Int) (C : Int) (.slice A (R * C) c)] W fun e w' => e = .returned (.bool true) ∧ Below W.heap.size W w') at HV
      show Calls Tryd.prog 16 #[mtV (m : Int) (R : Int) (C : Int) (.slice A (R * C) c), .slice B rows.length cb] w _
      change Hid (r = if vM (mkM m R C E) = true ∧ rows.length ≤ 32 ∧ ∀ x ∈ rows, 0 ≤ x ∧ x < (R : Int) then (mkM ((m : Int)).toNat rows.length ((C : Int)).toNat (fun i j => E (rows.getD i 0).toNat j), 0) else (zeroM, 1)) at HR0
      rw [Int.toNat_natCast, Int.toNat_natCast] at HR0
      have HR := hideIt HR0.out
      have HI := hideIt hI
      have HB := hideIt hb
      have HSB := hideIt hB
      have HNL := hideIt hn
      obtain ⟨n, hnn⟩ : ∃ n, n = rows.length := ⟨_, rfl⟩
      rw [← hnn] at hcb hn HZ ⊢
      have HN := hideIt hnn
      have HZS := hideIt (fun W => zeros_any m n C (by omega) (by omega) W)
      clear hv hE hs hI hb hT hB hnn HR0
      obtain ⟨w1, hw1⟩ : ∃ w1, w1 = (w.alloc (.cells #[.int .i64 (m : Int), .int .i64 (R : Int), .int .i64 (C : Int), .slice A (R * C) c] 24)).alloc (.cells #[.int .i64 0, .int .i64 0, .int .i64 0, .slice none 0 0] 24) := ⟨_, rfl⟩
      have hw01 : Below w.heap.size w w1 := by rw [hw1]; exact ((Below.refl _ w).alloc (Nat.le_refl _) _).alloc (by simp) _
      have hba : Blk w1 w.heap.size 24 (mtC (m : Int) (R : Int) (C : Int) (.slice A (R * C) c)) := by rw [hw1]; exact (Blk.new w _ _).alloc _
      have hpr : Blk w1 (w.heap.size + 1) 24 (mtC 0 0 0 (.slice none 0 0)) := by rw [hw1]; exact Blk.new2 w _ _ _
      have HW1 := hideIt hw1
      have HW01 := hideIt hw01
      have HBA := hideIt hba
      have HPR := hideIt hpr
      clear hw1 hw01 hba hpr
      go_enter Tryd.func16, Tryd.ntmps16
      go_wp2_with fail
      rw [← HW1.out]
      refine (HV.out w1 HW01.out).mono ?_
      rintro e w2 ⟨rfl, hb2⟩
      have HBA2 := hideIt (HBA.out.kept hb2 HBA.out.lt)
      have HPR2 := hideIt (HPR.out.kept hb2 HPR.out.lt)
      have HW02 := hideIt (HW01.out.trans (hb2.mono HW01.out.size))
      have f0 := HBA2.out.cell 0
      have f1 := HBA2.out.cell 1
      have f2 := HBA2.out.cell 2
      clear hb2 HW1 HW01 HBA HPR HV
      go_wp2_with (first
        | (go_at_call 40; refine (HZ.out _).mono ?_; rintro e w3 ⟨rfl, rfl⟩)
        | (go_at_call 35; refine (HZS.out _).mono ?_; rintro e w5 ⟨gp, rfl, hg, hc, hb5⟩; have HMK := hideIt (Mk.start (m := m) HW02.out HPR2.out (Nat.le_succ _) hb5 hg hc rfl); have HB5 := hideIt hb5; have HG := hideIt hg; clear hg hc hb5))
      obtain ⟨w6, hw6⟩ : ∃ w6, w6 = w5.alloc (.cells #[.int .i64 (m : Int), .int .i64 (n : Int), .int .i64 (C : Int), .slice (some ⟨gp, 0, none⟩) (n * C) (n * C)] 24) := ⟨_, rfl⟩
      obtain ⟨p6, hp6⟩ : ∃ p6, p6 = w5.heap.size := ⟨_, rfl⟩
      rw [← hw6, ← hp6]
      have HM0 : Hid (Mk w w6 (w.heap.size + 1) p6 gp m n C w6 (fun _ _ => 0)) := by rw [hw6, hp6]; exact HMK.out
      have HARG := hideIt (ArgM.start HI.out HB.out hcap HBA2.out HM0.out.w06 (show Below w2.heap.size w2 w6 by rw [hw6]; exact HB5.out.alloc HB5.out.size _) HG.out HM0.out.gl0)
      clear hw6 hp6 HMK HB5 HG HI HB HBA2 HPR2 HW02 HZS f0 f1 f2 HZ
      go_loopg [28] n (fun gk s28 wr => ∃ k : Nat, k + gk = n ∧ s28 = .int .i64 (k : Int) ∧ Aside (Mk w w6 (w.heap.size + 1) p6 gp m n C wr (pkK E rows k) ∧ ∀ x ∈ rows.take k, 0 ≤ x ∧ x < (R : Int)))
      case atStart => exact ⟨0, by omega, rfl, HM0.out.congr (fun i j _ _ => by unfold pkK; rw [if_neg (by omega)]), fun x hx => by simp at hx⟩
      case round =>
        obtain ⟨k, hk, rfl, HI⟩ := hrel
        by_cases hlt : k < n
        · have hinc := inc_c 3 k (by omega)
          have hkn : (k : Int) < (n : Int) := by omega
          have hkl : k < rows.length := by rw [← HN.out]; exact hlt
          obtain ⟨br, og, hA, hbr, hc0⟩ := HSB.out.num hkl
          subst hA
          have hcell := (HI.out.1.low.cell (p := ⟨br, og + k, none⟩) hbr).trans hc0
          have HTK := hideIt (take_snoc rows k hkl)
          have HMEM := hideIt (List.getElem_mem hkl)
          have HGD := hideIt (show rows.getD k 0 = rows[k] by rw [List.getD_eq_getElem?_getD, List.getElem?_eq_getElem hkl]; rfl)
          have HMK := hideIt HI.out.1
          have HAL := hideIt HI.out.2
          have hARG := (HARG.out.sel HI.out.1.sel)
          have g0 := hARG.box.cell 0
          have g1 := hARG.box.cell 1
          have g2 := hARG.box.cell 2
          have HARW := hideIt hARG
          clear hc0 HI HM0 hARG
          generalize rows[k] = x at *
          clear hkl
          by_cases hx0 : 0 ≤ x
          · by_cases hxR : x < (R : Int)
            · obtain ⟨y, rfl⟩ := Int.eq_ofNat_of_zero_le hx0
              have hyR : y < R := by omega
              have hyR2 : ¬ (R : Int) ≤ (y : Int) := by omega
              obtain ⟨D3, hrow3, hints3⟩ := HMK.out.rowI hlt (by omega) (by omega)
              obtain ⟨D2, hrow2, hints2⟩ := HARW.out.row hyR (by omega) (by omega)
              have HRP := hideIt hrow3
              have HIP := hideIt hints3
              have HRB := hideIt hrow2
              have QM := hideIt (show ∀ W, Below wr.heap.size wr W → _ from fun W hW => ld_mt (HMK.out.below hW).box)
              have QB := hideIt (show ∀ W, Below wr.heap.size wr W → _ from fun W hW => ld_mt (HARW.out.below hW).box)
              have HIBW := hideIt (show ∀ W, Below wr.heap.size wr W → Ints W D2 b (o + y * C) C (E y) from fun W hW => hints2.below hW (fun h0 => hints2.lt h0))
              have HNX := hideIt (pkK_next E rows k y (by rw [HGD.out]; rfl))
              have HXY := hideIt (And.intro hx0 hxR)
              clear hrow3 hints3 hrow2 hints2 hx0 hxR
              go_wp2_with fail
              refine calm_tail (C := fun W => Below wr.heap.size wr W) 6 (by kernel_rfl) (by kernel_rfl) (Below.refl _ _).drew ?_
              simp only [List.take_succ_cons, List.take_zero, List.drop_succ_cons, List.drop_zero]
              go_big_quiet_want
              refine quiet_ld 24 (.tmp 6) rfl (mtV (m : Int) (n : Int) (C : Int) (.slice (some ⟨gp, 0, none⟩) (n * C) (n * C))) (fun W hW => QM.out W hW) ?_
              go_big_quiet_on
              try simp only [Act.put]
              try simp only [List.setIfInBounds_toArray]
              try simp only [List.set_cons_succ]
              try simp only [List.set_cons_zero]
              go_big_quiet_step ((intro _; rfl))
              go_big_quiet_step ((intro hb; refine (HRP.out _).mono ?_; rintro x wc ⟨rfl, hb2⟩; exact ⟨rfl, hb.trans (hb2.mono hb.size)⟩))
              go_big_quiet_want
              refine quiet_ld 24 (.tmp 2) rfl (mtV (m : Int) (R : Int) (C : Int) (.slice A (R * C) c)) (fun W hW => QB.out W hW) ?_
              go_big_quiet_on
              try simp only [Act.put]
              try simp only [List.setIfInBounds_toArray]
              try simp only [List.set_cons_succ]
              try simp only [List.set_cons_zero]
              go_big_quiet_step ((intro _; rfl))
              go_big_quiet_step ((intro hb; refine (HRB.out _).mono ?_; rintro x wc ⟨rfl, hb2⟩; exact ⟨rfl, hb.trans (hb2.mono hb.size)⟩))
              refine wpQuiet_nil ?_
              intro W0 hW0
              have HM9 := hideIt (HMK.out.below hW0)
              have HI1 := hideIt (HIP.out W0 hW0)
              have HI2 := hideIt (HIBW.out W0 hW0)
              clear hW0 QM QB HRP HRB HIP HIBW HMK HARW hcell g0 g1 g2
              have HFIT := hideIt (show k * C + C ≤ n * C by have h := Nat.mul_le_mul_right C (show k + 1 ≤ n from hlt); rw [Nat.add_mul, Nat.one_mul] at h; exact h)
              go_wp2_with ((with_reducible refine at_copy ?_); refine wpList_cpI rfl (.tmp 44) (.tmp 47) rfl D3 D2 C (n * C - k * C) (c - y * C) gp (k * C) b (o + y * C) (E y) ((nl (n * C) (gl C (pkK E rows k))).map iv) rfl rfl HM9.out.cells (by rw [List.length_map, nl_len]; exact HFIT.out) HI1.out.adr HI2.out ?_; intro w9 HI3 HS3)
              go_roundg (gk - 1)
              case measure => omega
              case rel =>
                refine ⟨k + 1, by omega, by go_num, (HM9.out.rowset hlt HI3.out HS3.out).congr (fun i j _ _ => HNX.out i j), fun z hz => ?_⟩
                rw [HTK.out] at hz
                rcases List.mem_append.1 hz with h | h
                · exact HAL.out z h
                · rw [List.mem_singleton] at h; rw [h]; exact HXY.out
            · have HR2 : Hid (r = (zeroM, 1)) := hideIt (by rw [HR.out]; exact if_neg (fun h => hxR (h.2.2 x HMEM.out).2))
              have hxR2 : (R : Int) ≤ x := by omega
              clear hxR
              go_wp2_with ((with_reducible refine at_store ?_); refine wpList_stM rfl (.tmp 4) (.tmp 41) rfl (w.heap.size + 1) 0 0 0 0 0 0 (.slice none 0 0) (.slice none 0 0) rfl rfl rfl HMK.out.res ?_; intro w8 HT8 HB8)
              refine bodyPost_ret (results_two rfl _ _ (w.heap.size + 1) _ _ _ rfl HB8.out Tryd.underlying24 rfl isz4) rfl ?_
              rw [HR2.out]
              exact MRes.bad (HT8.out.below HMK.out.low (by omega)) 1
          · have HR2 : Hid (r = (zeroM, 1)) := hideIt (by rw [HR.out]; exact if_neg (fun h => hx0 (h.2.2 x HMEM.out).1))
            have hx1 : x < 0 := by omega
            clear hx0
            go_wp2_with ((with_reducible refine at_store ?_); refine wpList_stM rfl (.tmp 4) (.tmp 41) rfl (w.heap.size + 1) 0 0 0 0 0 0 (.slice none 0 0) (.slice none 0 0) rfl rfl rfl HMK.out.res ?_; intro w8 HT8 HB8)
            refine bodyPost_ret (results_two rfl _ _ (w.heap.size + 1) _ _ _ rfl HB8.out Tryd.underlying24 rfl isz4) rfl ?_
            rw [HR2.out]
            exact MRes.bad (HT8.out.below HMK.out.low (by omega)) 1
        · have hkn : ¬ (k : Int) < (n : Int) := by omega
          obtain rfl : k = n := by omega
          have HMK := hideIt (HI.out.1.congr (N := fun i j => E (rows.getD i 0).toNat j) (fun i j hi hj => by unfold pkK; rw [if_pos hi]))
          have HR2 : Hid (r = (mkM m k C (fun i j => E (rows.getD i 0).toNat j), 0)) := hideIt (by
            rw [HR.out, HN.out]
            exact if_pos ⟨HVV.out, HNL.out, fun x hx => HI.out.2 x (by rw [List.take_of_length_le (by rw [HN.out]; exact Nat.le_refl _)]; exact hx)⟩)
          clear HI HM0
          go_wp2_with (first
            | ((with_reducible refine at_load ?_); refine wpList_ldM rfl (.tmp 6) rfl p6 _ _ _ _ rfl HMK.out.box ?_)
            | ((with_reducible refine at_store ?_); refine wpList_stM rfl (.tmp 4) (.tmp 50) rfl (w.heap.size + 1) _ _ _ _ _ _ _ _ rfl rfl rfl HMK.out.res ?_; intro w8 HT8 HB8))
          refine bodyPost_ret (results_two rfl _ _ (w.heap.size + 1) _ _ _ rfl HB8.out Tryd.underlying24 rfl isz4) rfl ?_
          rw [HR2.out]
          exact HMK.out.fin (by omega) (by omega) HT8.out
    · have HZ := hideIt (fun W => isz_any (rows.length : Int) W)
      rw [show isz (rows.length : Int) = false by unfold isz; apply decide_eq_false; omega] at HZ
      have HR2 : Hid (r = (zeroM, 1)) := hideIt (by rw [HR.out]; exact if_neg (fun h => hn h.2.1))
      clear hv hs hT HR hn hB
      generalize rows.length = n2 at *
      generalize a.l.length = n at *
      generalize a.F = F at *
      generalize a.R = R at *
      generalize a.C = C at *
      obtain ⟨w1, hw1⟩ : ∃ w1, w1 = (w.alloc (.cells #[.int .i64 F, .int .i64 R, .int .i64 C, .slice A n c] 24)).alloc (.cells #[.int .i64 0, .int .i64 0, .int .i64 0, .slice none 0 0] 24) := ⟨_, rfl⟩
      have hw01 : Below w.heap.size w w1 := by rw [hw1]; exact ((Below.refl _ w).alloc (Nat.le_refl _) _).alloc (by simp) _
      have hba : Blk w1 w.heap.size 24 (mtC F R C (.slice A n c)) := by rw [hw1]; exact (Blk.new w _ _).alloc _
      have hpr : Blk w1 (w.heap.size + 1) 24 (mtC 0 0 0 (.slice none 0 0)) := by rw [hw1]; exact Blk.new2 w _ _ _
      have HW1 := hideIt hw1
      have HW01 := hideIt hw01
      have HBA := hideIt hba
      have HPR := hideIt hpr
      clear hw1 hw01 hba hpr
      go_enter Tryd.func16, Tryd.ntmps16
      go_wp2_with fail
      rw [← HW1.out]
      refine (HV.out w1 HW01.out).mono ?_
      rintro e w2 ⟨rfl, hb2⟩
      have HBA2 := hideIt (HBA.out.kept hb2 HBA.out.lt)
      have HPR2 := hideIt (HPR.out.kept hb2 HPR.out.lt)
      have HW02 := hideIt (HW01.out.trans (hb2.mono HW01.out.size))
      have f0 := HBA2.out.cell 0
      have f1 := HBA2.out.cell 1
      have f2 := HBA2.out.cell 2
      clear hb2 HW1 HW01 HBA HPR HV
      go_wp2_with (first
        | (go_at_call 40; refine (HZ.out _).mono ?_; rintro e w3 ⟨rfl, rfl⟩)
        | ((with_reducible refine at_store ?_); refine wpList_stM rfl (.tmp 4) (.tmp 18) rfl (w.heap.size + 1) 0 0 0 0 0 0 (.slice none 0 0) (.slice none 0 0) rfl rfl rfl HPR2.out ?_; intro w8 HT8 HB8))
      refine bodyPost_ret (results_two rfl _ _ (w.heap.size + 1) _ _ _ rfl HB8.out Tryd.underlying24 rfl isz4) rfl ?_
      rw [HR2.out]
      exact MRes.bad (HT8.out.below HW02.out (by omega)) 1
  · rw [Bool.eq_false_iff.2 hv] at HV
    have HR2 : Hid (r = (zeroM, 1)) := hideIt (by rw [HR.out]; exact if_neg (fun h => hv h.1))
    clear hv hs hT HR hB
    generalize rows.length = n2 at *
    generalize a.l.length = n at *
    generalize a.F = F at *
    generalize a.R = R at *
    generalize a.C = C at *
    obtain ⟨w1, hw1⟩ : ∃ w1, w1 = (w.alloc (.cells #[.int .i64 F, .int .i64 R, .int .i64 C, .slice A n c] 24)).alloc (.cells #[.int .i64 0, .int .i64 0, .int .i64 0, .slice none 0 0] 24) := ⟨_, rfl⟩
    have hw01 : Below w.heap.size w w1 := by rw [hw1]; exact ((Below.refl _ w).alloc (Nat.le_refl _) _).alloc (by simp) _
    have hba : Blk w1 w.heap.size 24 (mtC F R C (.slice A n c)) := by rw [hw1]; exact (Blk.new w _ _).alloc _
    have hpr : Blk w1 (w.heap.size + 1) 24 (mtC 0 0 0 (.slice none 0 0)) := by rw [hw1]; exact Blk.new2 w _ _ _
    have HW1 := hideIt hw1
    have HW01 := hideIt hw01
    have HBA := hideIt hba
    have HPR := hideIt hpr
    clear hw1 hw01 hba hpr
    go_enter Tryd.func16, Tryd.ntmps16
    go_wp2_with fail
    rw [← HW1.out]
    refine (HV.out w1 HW01.out).mono ?_
    rintro e w2 ⟨rfl, hb2⟩
    have HBA2 := hideIt (HBA.out.kept hb2 HBA.out.lt)
    have HPR2 := hideIt (HPR.out.kept hb2 HPR.out.lt)
    have HW02 := hideIt (HW01.out.trans (hb2.mono HW01.out.size))
    have f0 := HBA2.out.cell 0
    have f1 := HBA2.out.cell 1
    have f2 := HBA2.out.cell 2
    clear hb2 HW1 HW01 HBA HPR HV
    go_wp2_with ((with_reducible refine at_store ?_); refine wpList_stM rfl (.tmp 4) (.tmp 18) rfl (w.heap.size + 1) 0 0 0 0 0 0 (.slice none 0 0) (.slice none 0 0) rfl rfl rfl HPR2.out ?_; intro w8 HT8 HB8)
    refine bodyPost_ret (results_two rfl _ _ (w.heap.size + 1) _ _ _ rfl HB8.out Tryd.underlying24 rfl isz4) rfl ?_
    rw [HR2.out]
    exact MRes.bad (HT8.out.below HW02.out (by omega)) 1

end Go.Proofs.YtodmcojcmihooaaDoor
