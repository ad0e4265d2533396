/-
  A matrix that came in, beside one that is made; Transpose, walked.
-/
import Derived.Test.YtodmcojcmihooaaDoorMatId
namespace Go.Proofs.YtodmcojcmihooaaDoor
open Go.RowKit
set_option linter.unusedVariables false

/-- A matrix that came in, in its box, while another one is made. -/
structure ArgM (w6 : World) (pa gp m R C : Nat) (A : Option Addr) (c b o : Nat) (E : Mx) : Prop where
  box : Blk w6 pa 24 (mtC (m : Int) (R : Int) (C : Int) (.slice A (R * C) c))
  ne : pa ≠ gp
  ints : Ints w6 A b o (R * C) (gl C E)
  bne : 0 < R * C → b ≠ gp
  cap : R * C ≤ c
section
variable {w6 : World} {pa gp m R C : Nat} {A : Option Addr} {c b o : Nat} {E : Mx}
theorem ArgM.sel (h : ArgM w6 pa gp m R C A c b o E) {w : World} (hs : Sel (fun k _ => k = gp) w6 w) : ArgM w pa gp m R C A c b o E :=
  ⟨hs.at_ h.box h.ne, h.ne, h.ints.sel hs (fun j hj q => h.bne (by omega) q), h.bne, h.cap⟩
theorem ArgM.below (h : ArgM w6 pa gp m R C A c b o E) {w : World} (hb : Below w6.heap.size w6 w) : ArgM w pa gp m R C A c b o E := h.sel (Sel.of_below _ hb)
theorem ArgM.row (h : ArgM w6 pa gp m R C A c b o E) {i : Nat} (hi : i < R) (hR : R ≤ 40) (hC : C ≤ 40) : ∃ D, (∀ W, Calls Tryd.prog 36 #[mtV (m : Int) (R : Int) (C : Int) (.slice A (R * C) c), .int .i64 (i : Int)] W fun e w' => e = .returned (.slice D C (c - i * C)) ∧ Below W.heap.size W w') ∧ Ints w6 D b (o + i * C) C (E i) :=
  ⟨rowA A c (i * C), fun W => row_any (m : Int) R C A (R * C) c i hi hR hC (Nat.le_refl _) h.cap W, h.ints.row hi h.cap⟩
theorem ArgM.start {w0 w1 w6 : World} (hI : Ints w0 A b o (R * C) (gl C E)) (hb : 0 < R * C → b < w0.heap.size) (hcap : R * C ≤ c) (hbox : Blk w1 pa 24 (mtC (m : Int) (R : Int) (C : Int) (.slice A (R * C) c))) (h06 : Below w0.heap.size w0 w6) (h16 : Below w1.heap.size w1 w6) (hg : w1.heap.size ≤ gp) (hg0 : w0.heap.size ≤ gp) : ArgM w6 pa gp m R C A c b o E :=
  ⟨hbox.kept h16 hbox.lt, by have := hbox.lt; omega, hI.below h06 hb, fun h0 => by have := hb h0; omega, hcap⟩
end

/-- What Transpose answers. -/
def trM (a : Mt) : Mt × Int := if vM a = true then (mkM a.F.toNat a.C.toNat a.R.toNat (tr a.e), 0) else (zeroM, 1)
/-- The transposed matrix while it is made: i rows and j elements of the next. -/
def trK (E : Mx) (i j : Nat) : Mx := fun r q => if q < i ∨ (q = i ∧ r < j) then E q r else 0
theorem trK_next (E : Mx) (i j : Nat) : upd2 (trK E i j) j i (E i j) = trK E i (j + 1) := by
  funext r q
  unfold upd2 trK
  by_cases e : r = j ∧ q = i
  · rw [if_pos e, if_pos (by omega), e.1, e.2]
  · rw [if_neg e]
    by_cases e2 : q < i ∨ (q = i ∧ r < j)
    · rw [if_pos e2, if_pos (by omega)]
    · rw [if_neg e2, if_neg (by omega)]
theorem trK_row (E : Mx) (i C r q : Nat) (hr : r < C) : trK E i C r q = trK E (i + 1) 0 r q := by
  unfold trK
  by_cases e : q < i + 1
  · rw [if_pos (by omega), if_pos (by omega)]
  · rw [if_neg (by omega), if_neg (by omega)]

set_option maxHeartbeats 1000000 in
set_option maxRecDepth 100000 in
theorem transp_any (a : Mt) (A : Option Addr) (c : Nat) (w : World) (hT : Tabs w) (hs : MIn w a A c) :
    Calls Tryd.prog 14 #[mtV a.F a.R a.C (.slice A a.l.length c)] w (MRes w (trM a)) := by
  have HV := hideIt (mvalid_b hT hs)
  obtain ⟨r, hr⟩ : ∃ r, r = trM a := ⟨_, rfl⟩
  rw [← hr]
  have HR := hideIt hr
  clear hr
  by_cases hv : vM a = true
  · rw [hv] at HV
    have HR2 : Hid (r = (mkM a.F.toNat a.C.toNat a.R.toNat (tr a.e), 0)) := hideIt (by rw [HR.out]; unfold trM; rw [if_pos hv])
    obtain ⟨m, R, C, hm, hR, hC, hE, ha⟩ := vM_is hv
    generalize a.e = E at ha hE HR2
    subst ha
    obtain ⟨b, o, hI, hb⟩ := mk_cell hs
    have hcap := hs.cap
    rw [mk_len] at HV hcap ⊢
    change Hid (∀ W, Below w.heap.size w W → Calls Tryd.prog 21 #[mtV (m : Int) (R : Int) (C : Int) (.slice A (R * C) c)] W fun e w' => e = .returned (.bool true) ∧ Below W.heap.size W w') at HV
    show Calls Tryd.prog 14 #[mtV (m : Int) (R : Int) (C : Int) (.slice A (R * C) c)] w _
    change Hid (r = (mkM ((m : Int)).toNat ((C : Int)).toNat ((R : Int)).toNat (tr E), 0)) at HR2
    rw [Int.toNat_natCast, Int.toNat_natCast, Int.toNat_natCast] at HR2
    obtain ⟨w1, hw1⟩ : ∃ w1, w1 = (w.alloc (.cells #[.int .i64 (m : Int), .int .i64 (R : Int), .int .i64 (C : Int), .slice A (R * C) c] 24)).alloc (.cells #[.int .i64 0, .int .i64 0, .int .i64 0, .slice none 0 0] 24) := ⟨_, rfl⟩
    have hw01 : Below w.heap.size w w1 := by rw [hw1]; exact ((Below.refl _ w).alloc (Nat.le_refl _) _).alloc (by simp) _
    have hba : Blk w1 w.heap.size 24 (mtC (m : Int) (R : Int) (C : Int) (.slice A (R * C) c)) := by rw [hw1]; exact (Blk.new w _ _).alloc _
    have hpr : Blk w1 (w.heap.size + 1) 24 (mtC 0 0 0 (.slice none 0 0)) := by rw [hw1]; exact Blk.new2 w _ _ _
    have HW1 := hideIt hw1
    have HW01 := hideIt hw01
    have HBA := hideIt hba
    have HPR := hideIt hpr
    have HI := hideIt hI
    have HB := hideIt hb
    have HZS := hideIt (fun W => zeros_any m C R (by omega) (by omega) W)
    have ha0 := hba.cell 0
    have ha1 := hba.cell 1
    have ha2 := hba.cell 2
    have ha3 := hba.cell 3
    clear hw1 hw01 hba hpr hv hE hs hI hb hT HR
    go_enter Tryd.func14, Tryd.ntmps14
    go_wp2_with fail
    rw [← HW1.out]
    refine (HV.out w1 HW01.out).mono ?_
    rintro e w2 ⟨rfl, hb2⟩
    have HBA2 := hideIt (HBA.out.kept hb2 HBA.out.lt)
    have HPR2 := hideIt (HPR.out.kept hb2 HPR.out.lt)
    have HW02 := hideIt (HW01.out.trans (hb2.mono HW01.out.size))
    have f0 := HBA2.out.cell 0
    have f1 := HBA2.out.cell 1
    have f2 := HBA2.out.cell 2
    clear hb2 ha0 ha1 ha2 ha3 HW1 HW01 HBA HPR HV
    go_wp2_with (go_at_call 35; refine (HZS.out _).mono ?_; rintro e w5 ⟨gp, rfl, hg, hc, hb5⟩; have HMK := hideIt (Mk.start (m := m) HW02.out HPR2.out (Nat.le_succ _) hb5 hg hc rfl); have HB5 := hideIt hb5; have HG := hideIt hg; have k1 := (hb5.cell (p := ⟨w.heap.size, 1, none⟩) HBA2.out.lt).trans f1; have hlt5 : w.heap.size < w5.heap.size := Nat.lt_of_lt_of_le HBA2.out.lt hb5.size; clear hg hc hb5)
    obtain ⟨w6, hw6⟩ : ∃ w6, w6 = w5.alloc (.cells #[.int .i64 (m : Int), .int .i64 (C : Int), .int .i64 (R : Int), .slice (some ⟨gp, 0, none⟩) (C * R) (C * R)] 24) := ⟨_, rfl⟩
    obtain ⟨p6, hp6⟩ : ∃ p6, p6 = w5.heap.size := ⟨_, rfl⟩
    rw [← hw6, ← hp6]
    have HM0 : Hid (Mk w w6 (w.heap.size + 1) p6 gp m C R w6 (fun _ _ => 0)) := by rw [hw6, hp6]; exact HMK.out
    have HARG := hideIt (ArgM.start HI.out HB.out hcap HBA2.out HM0.out.w06 (show Below w2.heap.size w2 w6 by rw [hw6]; exact HB5.out.alloc HB5.out.size _) HG.out HM0.out.gl0)
    clear hw6 hp6 HMK HB5 HG HI HB HBA2 HPR2 HW02 HZS k1 hlt5 f0 f1 f2
    have hRC : R * C ≤ 32 * 32 := Nat.mul_le_mul hR hC
    go_loopg [21] R (fun gk s21 wr => ∃ i : Nat, i + gk = R ∧ s21 = .int .i64 (i : Int) ∧ Aside (Mk w w6 (w.heap.size + 1) p6 gp m C R wr (trK E i 0)))
    case atStart => exact ⟨0, by omega, rfl, HM0.out.congr (fun i j _ _ => by unfold trK; rw [if_neg (by omega)])⟩
    case round =>
      obtain ⟨i, hi, rfl, HI⟩ := hrel
      by_cases hlt : i < R
      · have hinc := inc_c 3 i (by omega)
        have hiR : (i : Int) < (R : Int) := by omega
        obtain ⟨D, hrow, hints⟩ := HARG.out.row hlt (by omega) (by omega)
        have HROW := hideIt hrow
        have HINT := hideIt hints
        have HM := hideIt HI.out
        clear HI hrow hints HM0
        obtain ⟨g1, rfl⟩ : ∃ x, x = gk := ⟨gk, rfl⟩
        go_wp2_with (first
          | ((with_reducible refine at_load ?_); refine wpList_ldM rfl (.tmp 1) rfl w.heap.size _ _ _ _ rfl (HARG.out.sel HM.out.sel).box ?_)
          | (go_at_call 36; refine (HROW.out _).mono ?_; rintro e w7 ⟨rfl, hb7⟩; have HM7 := hideIt (HM.out.below hb7); clear hb7))
        clear HM HROW
        go_loopg [28] C (fun gk s28 wr => ∃ j : Nat, j + gk = C ∧ s28 = .int .i64 (j : Int) ∧ Aside (Mk w w6 (w.heap.size + 1) p6 gp m C R wr (trK E i j)))
        case atStart => exact ⟨0, by omega, rfl, HM7.out⟩
        case round =>
          obtain ⟨j, hj, rfl, HJ⟩ := hrel
          by_cases hltj : j < C
          · have hincj := inc_c 3 j (by omega)
            have hjC : (j : Int) < (C : Int) := by omega
            have hI2 := HINT.out.sel HJ.out.sel (fun q hq e => HARG.out.bne (by have := ix_lt hlt hltj; omega) e)
            have hD := hI2.adr (by omega)
            have hcell := hI2.cell j hltj
            subst hD
            have HROW := hideIt (fun W => row_mk (gp := gp) (R := C) (C := R) (i := j) m hltj (by omega) (by omega) (by omega) W)
            have HM := hideIt HJ.out
            have HNX := hideIt (trK_next E i j)
            clear HJ hI2 HM7
            obtain ⟨x, hx⟩ : ∃ x, x = E i j := ⟨_, rfl⟩
            rw [← hx] at hcell HNX
            clear hx
            go_wp2_with (first
              | ((with_reducible refine at_load ?_); refine wpList_ldM rfl (.tmp 4) rfl p6 _ _ _ _ rfl HM.out.box ?_)
              | (go_at_call 36; refine (HROW.out _).mono ?_; rintro e w8 ⟨rfl, hb8⟩; have HM8 := hideIt (HM.out.below hb8); obtain ⟨hcel2, hfr2⟩ := HM8.out.cell (i := j) (j := i) hltj hlt; clear hb8))
            go_roundg (gk - 1)
            case measure => omega
            case rel => exact ⟨j + 1, by omega, by go_num, by have h := HM8.out.store (x := x) hltj hlt; rw [HNX.out] at h; exact h⟩
          · have hjC : ¬ (j : Int) < (C : Int) := by omega
            obtain rfl : j = C := by omega
            have HM := hideIt (HJ.out.congr (fun r q hr hq => trK_row E i j r q hr))
            clear HJ HM7
            go_wp2_with fail
            go_roundg (g1 - 1)
            case measure => omega
            case rel => exact ⟨i + 1, by omega, by go_num, HM.out⟩
      · have hiR : ¬ (i : Int) < (R : Int) := by omega
        obtain rfl : i = R := by omega
        have HM := hideIt (HI.out.congr (N := tr E) (fun r q hr hq => by unfold trK tr; rw [if_pos (by omega)]))
        clear HI HM0
        go_wp2_with (first
          | ((with_reducible refine at_load ?_); refine wpList_ldM rfl (.tmp 4) rfl p6 _ _ _ _ rfl HM.out.box ?_)
          | ((with_reducible refine at_store ?_); refine wpList_stM rfl (.tmp 2) (.tmp 41) rfl (w.heap.size + 1) _ _ _ _ _ _ _ _ rfl rfl rfl HM.out.res ?_; intro w8 HT8 HB8))
        refine bodyPost_ret (results_two rfl _ _ (w.heap.size + 1) _ _ _ rfl HB8.out Tryd.underlying24 rfl isz4) rfl ?_
        rw [HR2.out]
        exact HM.out.fin (by omega) (by omega) HT8.out
  · rw [Bool.eq_false_iff.2 hv] at HV
    have HR2 : Hid (r = (zeroM, 1)) := hideIt (by rw [HR.out]; unfold trM; rw [if_neg hv])
    obtain ⟨w1, hw1⟩ : ∃ w1, w1 = (w.alloc (.cells #[.int .i64 a.F, .int .i64 a.R, .int .i64 a.C, .slice A a.l.length c] 24)).alloc (.cells #[.int .i64 0, .int .i64 0, .int .i64 0, .slice none 0 0] 24) := ⟨_, rfl⟩
    have hw01 : Below w.heap.size w w1 := by rw [hw1]; exact ((Below.refl _ w).alloc (Nat.le_refl _) _).alloc (by simp) _
    have hpr : Blk w1 (w.heap.size + 1) 24 (mtC 0 0 0 (.slice none 0 0)) := by rw [hw1]; exact Blk.new2 w _ _ _
    have HW1 := hideIt hw1
    have HW01 := hideIt hw01
    have HPR := hideIt hpr
    clear hv hs hT HR hw1 hw01 hpr
    generalize a.l.length = n at *
    generalize a.F = F at *
    generalize a.R = R at *
    generalize a.C = C at *
    go_enter Tryd.func14, Tryd.ntmps14
    go_wp2_with fail
    rw [← HW1.out]
    refine (HV.out w1 HW01.out).mono ?_
    rintro e w2 ⟨rfl, hb2⟩
    have HPR2 := hideIt (HPR.out.kept hb2 HPR.out.lt)
    have HW02 := hideIt (HW01.out.trans (hb2.mono HW01.out.size))
    clear hb2 HW1 HW01 HPR HV
    go_wp2_with ((with_reducible refine at_store ?_); refine wpList_stM rfl (.tmp 2) (.tmp 11) rfl (w.heap.size + 1) 0 0 0 0 0 0 (.slice none 0 0) (.slice none 0 0) rfl rfl rfl HPR2.out ?_; intro w8 HT8 HB8)
    refine bodyPost_ret (results_two rfl _ _ (w.heap.size + 1) _ _ _ rfl HB8.out Tryd.underlying24 rfl isz4) rfl ?_
    rw [HR2.out]
    exact MRes.bad (HT8.out.below HW02.out (Nat.le_succ _)) 1

end Go.Proofs.YtodmcojcmihooaaDoor
