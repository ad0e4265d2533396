/-
  The walk of the law: For every two matrices, list of rows and position, validity, an element, the product, the transposed matrix, the picked rows, the rank, the independent rows and the inverse are those of the specification.
-/
import Derived.Test.YtodmcojcmihooaaDoorMatJ
import Derived.Test.YtodmcojcmihooaaDoorMatSan
import Derived.Test.YtodmcojcmihooaaDoorArgM
import Derived.Test.YtodmcojcmihooaaDoorRefP
import Derived.Test.YtodmcojcmihooaaDoorRefAt
namespace Go.Proofs.YtodmcojcmihooaaDoor.matrixMatchesSpec
open Go.RowKit
set_option linter.unusedVariables false

set_option maxHeartbeats 4000000 in
set_option maxRecDepth 100000 in
theorem walk (a0 : Mt) (A0 : Option Addr) (c0 : Nat) (a1 : Mt) (A1 : Option Addr) (c1 : Nat) (B2 : Option Addr) (cb2 : Nat) (rows : List Int) (a3 : Int) (a4 : Int) (w : World) (x0 : MIn w a0 A0 c0) (x1 : MIn w a1 A1 c1) (xr : Sl w w.heap.size B2 1 rows.length (rows.map iv)) (mr : rows.length ≤ cb2) (kr : cb2 ≤ maxLen) (w3 : -9223372036854775808 ≤ a3 ∧ a3 ≤ 9223372036854775807) (w4 : -9223372036854775808 ≤ a4 ∧ a4 ≤ 9223372036854775807) (T1 : Tabs w) :
    Calls Tryd.prog 3 #[mtV a0.F a0.R a0.C (.slice A0 a0.l.length c0), mtV a1.F a1.R a1.C (.slice A1 a1.l.length c1), .slice B2 rows.length cb2, .int .i64 a3, .int .i64 a4] w fun e w' => e = .returned (.bool true) ∧ Below w.heap.size w w' := by
  obtain ⟨p, e, hr1⟩ : ∃ p e, mulM a0 a1 = (p, e) := ⟨_, _, rfl⟩
  obtain ⟨s, g, hr2⟩ : ∃ p e, trM a0 = (p, e) := ⟨_, _, rfl⟩
  obtain ⟨u, k, hr3⟩ : ∃ p e, pickM a0 rows = (p, e) := ⟨_, _, rfl⟩
  obtain ⟨x, m, hr4⟩ : ∃ p e, invM a0 = (p, e) := ⟨_, _, rfl⟩
  obtain ⟨l, hl⟩ : ∃ l, indM a0 = l := ⟨_, rfl⟩
  obtain ⟨vb, hvb⟩ : ∃ l, vM a0 = l := ⟨_, rfl⟩
  obtain ⟨at_, hat⟩ : ∃ l, atM a0 a3 a4 = l := ⟨_, rfl⟩
  obtain ⟨rk_, hrk⟩ : ∃ l, rankM a0 = l := ⟨_, rfl⟩
  have HR1 := hideIt hr1
  have HR2 := hideIt hr2
  have HR3 := hideIt hr3
  have HR4 := hideIt hr4
  have HI := hideIt hl
  have HVB := hideIt hvb
  have HAT := hideIt hat
  have HRK := hideIt hrk
  have HLP := hideIt (show p.l.length ≤ 1024 by have h := mulM_len a0 a1; rw [hr1] at h; exact h)
  have HLS := hideIt (show s.l.length ≤ 1024 by have h := trM_len a0; rw [hr2] at h; exact h)
  have HLU := hideIt (show u.l.length ≤ 1024 by have h := pickM_len a0 rows; rw [hr3] at h; exact h)
  have HLX := hideIt (show x.l.length ≤ 1024 by have h := invM_len a0; rw [hr4] at h; exact h)
  have HLL := hideIt (show l.length ≤ 32 by have h := indM_len a0; rw [hl] at h; exact h)
  have hq1 := int_eqlT 27 (a := e) (b := e) rfl
  have hq2 := int_eqlT 27 (a := g) (b := g) rfl
  have hq3 := int_eqlT 27 (a := k) (b := k) rfl
  have hq4 := int_eqlT 27 (a := m) (b := m) rfl
  have hq5 := int_eqlT 3 (a := at_) (b := at_) rfl
  have hq6 := int_eqlT 3 (a := rk_) (b := rk_) rfl
  have HXR := hideIt (fun W (h : Below w.heap.size w W) => (xr.below h).wide h.size)
  have HWW := hideIt (And.intro w3 w4)
  clear hr1 hr2 hr3 hr4 hl hvb hat hrk xr w3 w4
  have HT := hideIt T1
  clear T1
  obtain ⟨W0, hW0⟩ : ∃ W, W = ((w.alloc (.cells #[.int .i64 a0.F, .int .i64 a0.R, .int .i64 a0.C, .slice A0 a0.l.length c0] 24)).alloc (.cells #[.int .i64 a1.F, .int .i64 a1.R, .int .i64 a1.C, .slice A1 a1.l.length c1] 24)) := ⟨_, rfl⟩
  have HL0 : Hid (Below w.heap.size w W0) := hideIt (by rw [hW0]; exact (((Below.refl _ w).alloc (Nat.le_refl _) _).alloc (by simp; try omega) _))
  have HB5 : Blk W0 w.heap.size 24 (mtC a0.F a0.R a0.C (.slice A0 a0.l.length c0)) := by
    rw [hW0]
    have h := Blk.new w 24 (mtC a0.F a0.R a0.C (.slice A0 a0.l.length c0))
    exact (h.alloc _)
  have HQ5W0 : Hid (BM W0 w.heap.size a0 A0 c0) := hideIt ⟨HB5, x0.keep HL0.out⟩
  have HB6 : Blk W0 (w.heap.size + 1) 24 (mtC a1.F a1.R a1.C (.slice A1 a1.l.length c1)) := by
    rw [hW0]
    have h := Blk.new (w.alloc (.cells #[.int .i64 a0.F, .int .i64 a0.R, .int .i64 a0.C, .slice A0 a0.l.length c0] 24)) 24 (mtC a1.F a1.R a1.C (.slice A1 a1.l.length c1))
    simp only [World.size_alloc] at h
    exact h
  have HQ6W0 : Hid (BM W0 (w.heap.size + 1) a1 A1 c1) := hideIt ⟨HB6, x1.keep HL0.out⟩
  have HW0 := hideIt hW0
  clear hW0 HB5 HB6 x0 x1
  go_enter Tryd.func3, Tryd.ntmps3
  go_upto_region 1 with fail
  rw [← HW0.out]
  clear HW0
  go_upto_region 1 with fail
  go_cut [11] (fun sv W => ∃ ok : Bool, sv = .bool ok ∧ Aside ((ok = true → smallM a0 = true ∧ smallM a1 = true) ∧ Below W0.heap.size W0 W))
  case first =>
    have HS0 := hideIt (Below.refl W0.heap.size W0)
    go_wp2_with (first | ((with_reducible refine at_load ?_); refine wpList_ldG (by kernel_rfl) (.tmp 5) rfl w.heap.size _ _ _ _ rfl HQ5W0.out.box ?_))
    refine (small_any a0 A0 c0 W0).mono ?_
    rintro e w1 ⟨rfl, hb⟩
    have HSX := hideIt (ls6 HS0.out hb)
    have HLw1 := hideIt (ls6 HL0.out hb)
    have HQ5w1 := hideIt (HQ5W0.out.keep hb)
    have HQ6w1 := hideIt (HQ6W0.out.keep hb)
    clear hb HQ5W0 HQ6W0  HL0
    cases h0 : smallM a0
    · go_wp2_with fail
      go_meet
      exact ⟨_, rfl, ⟨(fun h => Bool.noConfusion h), HSX.out⟩⟩
    · go_wp2_with (first | ((with_reducible refine at_load ?_); refine wpList_ldG (by kernel_rfl) (.tmp 6) rfl (w.heap.size + 1) _ _ _ _ rfl HQ6w1.out.box ?_))
      refine (small_any a1 A1 c1 w1).mono ?_
      rintro e w2 ⟨rfl, hb⟩
      have HSX := hideIt (ls6 HSX.out hb)
      have HLw2 := hideIt (ls6 HLw1.out hb)
      have HQ5w2 := hideIt (HQ5w1.out.keep hb)
      have HQ6w2 := hideIt (HQ6w1.out.keep hb)
      clear hb HQ5w1 HQ6w1  HLw1
      cases h1 : smallM a1
      · go_wp2_with fail
        go_meet
        exact ⟨_, rfl, ⟨(fun h => Bool.noConfusion h), HSX.out⟩⟩
      · go_wp2_with fail
        go_meet
        exact ⟨_, rfl, ⟨(fun _ => ⟨h0, h1⟩), HSX.out⟩⟩
  obtain ⟨ok, rfl, HOK⟩ := hcut
  have HFIT := hideIt HOK.out.1
  have hb := HOK.out.2
  clear HOK
  have HLwc := hideIt (ls6 HL0.out hb)
  have HQ5wc := hideIt (HQ5W0.out.keep hb)
  have HQ6wc := hideIt (HQ6W0.out.keep hb)
  clear hb HQ5W0 HQ6W0  HL0
  cases ok
  · go_wp2_with fail
    refine (sanity_any wc (HT.out.keep HLwc.out)).mono ?_
    rintro e w3 ⟨rfl, hb⟩
    have HLw3 := hideIt (ls6 HLwc.out hb)
    have HQ5w3 := hideIt (HQ5wc.out.keep hb)
    have HQ6w3 := hideIt (HQ6wc.out.keep hb)
    clear hb HQ5wc HQ6wc  HLwc
    go_wp2_with fail
    go_ret
    exact ⟨rfl, HLw3.out⟩
  · by_cases h40 : rows.length ≤ 40
    · have d1 : decide ((40 : Int) < ((rows.length : Nat) : Int)) = false := decide_eq_false (by omega)
      clear h40
      go_upto_region 4 with fail
      go_wp2_with (first | ((with_reducible refine at_load ?_); refine wpList_ldG (by kernel_rfl) (.tmp 5) rfl w.heap.size _ _ _ _ rfl HQ5wc.out.box ?_) | ((with_reducible refine at_load ?_); refine wpList_ldG (by kernel_rfl) (.tmp 6) rfl (w.heap.size + 1) _ _ _ _ rfl HQ6wc.out.box ?_))
      refine (mul6_any a0 a1 _ _ _ _ wc (HT.out.keep HLwc.out) HQ5wc.out.mat HQ6wc.out.mat).mono ?_
      rintro e w3 hres
      rw [HR1.out] at hres
      obtain ⟨D3, c3, rfl, hin, hb⟩ := hres.min2
      have HM3 := hideIt hin
      clear hin hres
      have HLw3 := hideIt (ls6 HLwc.out hb)
      have HQ5w3 := hideIt (HQ5wc.out.keep hb)
      have HQ6w3 := hideIt (HQ6wc.out.keep hb)
      clear hb HQ5wc HQ6wc  HLwc
      go_upto_region 5 with fail
      have HS := hideIt (below_new w3 (.cells #[.int .i64 p.F, .int .i64 p.R, .int .i64 p.C, .slice D3 p.l.length c3] 24))
      have HB : Hid (BM (w3.alloc (.cells #[.int .i64 p.F, .int .i64 p.R, .int .i64 p.C, .slice D3 p.l.length c3] 24)) w3.heap.size p D3 c3) := hideIt ⟨Blk.new w3 _ _, HM3.out.keep (below_new _ _)⟩
      obtain ⟨w4, hV⟩ : ∃ V, V = w3.alloc (.cells #[.int .i64 p.F, .int .i64 p.R, .int .i64 p.C, .slice D3 p.l.length c3] 24) := ⟨_, rfl⟩
      rw [← hV] at HS HB ⊢
      obtain ⟨p12, hp⟩ : ∃ p, p = w3.heap.size := ⟨_, rfl⟩
      rw [← hp] at HB ⊢
      have HQ12w4 := HB
      clear hV hp HB HM3
      have hb := HS.out
      clear HS
      have HLw4 := hideIt (ls6 HLw3.out hb)
      have HQ5w4 := hideIt (HQ5w3.out.keep hb)
      have HQ6w4 := hideIt (HQ6w3.out.keep hb)
      clear hb HQ5w3 HQ6w3  HLw3
      go_wp2_with (first | ((with_reducible refine at_load ?_); refine wpList_ldG (by kernel_rfl) (.tmp 5) rfl w.heap.size _ _ _ _ rfl HQ5w4.out.box ?_) | ((with_reducible refine at_load ?_); refine wpList_ldG (by kernel_rfl) (.tmp 6) rfl (w.heap.size + 1) _ _ _ _ rfl HQ6w4.out.box ?_))
      refine (rmul6_any a0 a1 _ _ _ _ w4 HQ5w4.out.mat HQ6w4.out.mat).mono ?_
      rintro e w5 hres
      rw [HR1.out] at hres
      obtain ⟨D5, c5, rfl, hin, hb⟩ := hres.min2
      have HM5 := hideIt hin
      clear hin hres
      have HLw5 := hideIt (ls6 HLw4.out hb)
      have HQ5w5 := hideIt (HQ5w4.out.keep hb)
      have HQ6w5 := hideIt (HQ6w4.out.keep hb)
      have HQ12w5 := hideIt (HQ12w4.out.keep hb)
      clear hb HQ5w4 HQ6w4 HQ12w4  HLw4
      go_upto_region 6 with fail
      have HS := hideIt (below_new w5 (.cells #[.int .i64 p.F, .int .i64 p.R, .int .i64 p.C, .slice D5 p.l.length c5] 24))
      have HB : Hid (BM (w5.alloc (.cells #[.int .i64 p.F, .int .i64 p.R, .int .i64 p.C, .slice D5 p.l.length c5] 24)) w5.heap.size p D5 c5) := hideIt ⟨Blk.new w5 _ _, HM5.out.keep (below_new _ _)⟩
      obtain ⟨w6, hV⟩ : ∃ V, V = w5.alloc (.cells #[.int .i64 p.F, .int .i64 p.R, .int .i64 p.C, .slice D5 p.l.length c5] 24) := ⟨_, rfl⟩
      rw [← hV] at HS HB ⊢
      obtain ⟨p14, hp⟩ : ∃ p, p = w5.heap.size := ⟨_, rfl⟩
      rw [← hp] at HB ⊢
      have HQ14w6 := HB
      clear hV hp HB HM5
      have hb := HS.out
      clear HS
      have HLw6 := hideIt (ls6 HLw5.out hb)
      have HQ5w6 := hideIt (HQ5w5.out.keep hb)
      have HQ6w6 := hideIt (HQ6w5.out.keep hb)
      have HQ12w6 := hideIt (HQ12w5.out.keep hb)
      clear hb HQ5w5 HQ6w5 HQ12w5  HLw5
      go_wp2_with (first | ((with_reducible refine at_load ?_); refine wpList_ldG (by kernel_rfl) (.tmp 5) rfl w.heap.size _ _ _ _ rfl HQ5w6.out.box ?_))
      refine (transp_any a0 _ _ w6 (HT.out.keep HLw6.out) HQ5w6.out.mat).mono ?_
      rintro e w7 hres
      rw [HR2.out] at hres
      obtain ⟨D7, c7, rfl, hin, hb⟩ := hres.min2
      have HM7 := hideIt hin
      clear hin hres
      have HLw7 := hideIt (ls6 HLw6.out hb)
      have HQ5w7 := hideIt (HQ5w6.out.keep hb)
      have HQ6w7 := hideIt (HQ6w6.out.keep hb)
      have HQ12w7 := hideIt (HQ12w6.out.keep hb)
      have HQ14w7 := hideIt (HQ14w6.out.keep hb)
      clear hb HQ5w6 HQ6w6 HQ12w6 HQ14w6  HLw6
      go_upto_region 7 with fail
      have HS := hideIt (below_new w7 (.cells #[.int .i64 s.F, .int .i64 s.R, .int .i64 s.C, .slice D7 s.l.length c7] 24))
      have HB : Hid (BM (w7.alloc (.cells #[.int .i64 s.F, .int .i64 s.R, .int .i64 s.C, .slice D7 s.l.length c7] 24)) w7.heap.size s D7 c7) := hideIt ⟨Blk.new w7 _ _, HM7.out.keep (below_new _ _)⟩
      obtain ⟨w8, hV⟩ : ∃ V, V = w7.alloc (.cells #[.int .i64 s.F, .int .i64 s.R, .int .i64 s.C, .slice D7 s.l.length c7] 24) := ⟨_, rfl⟩
      rw [← hV] at HS HB ⊢
      obtain ⟨p16, hp⟩ : ∃ p, p = w7.heap.size := ⟨_, rfl⟩
      rw [← hp] at HB ⊢
      have HQ16w8 := HB
      clear hV hp HB HM7
      have hb := HS.out
      clear HS
      have HLw8 := hideIt (ls6 HLw7.out hb)
      have HQ5w8 := hideIt (HQ5w7.out.keep hb)
      have HQ6w8 := hideIt (HQ6w7.out.keep hb)
      have HQ12w8 := hideIt (HQ12w7.out.keep hb)
      have HQ14w8 := hideIt (HQ14w7.out.keep hb)
      clear hb HQ5w7 HQ6w7 HQ12w7 HQ14w7  HLw7
      go_wp2_with (first | ((with_reducible refine at_load ?_); refine wpList_ldG (by kernel_rfl) (.tmp 5) rfl w.heap.size _ _ _ _ rfl HQ5w8.out.box ?_))
      refine (rtransp_any a0 _ _ w8 HQ5w8.out.mat).mono ?_
      rintro e w9 hres
      rw [HR2.out] at hres
      obtain ⟨D9, c9, rfl, hin, hb⟩ := hres.min2
      have HM9 := hideIt hin
      clear hin hres
      have HLw9 := hideIt (ls6 HLw8.out hb)
      have HQ5w9 := hideIt (HQ5w8.out.keep hb)
      have HQ6w9 := hideIt (HQ6w8.out.keep hb)
      have HQ12w9 := hideIt (HQ12w8.out.keep hb)
      have HQ14w9 := hideIt (HQ14w8.out.keep hb)
      have HQ16w9 := hideIt (HQ16w8.out.keep hb)
      clear hb HQ5w8 HQ6w8 HQ12w8 HQ14w8 HQ16w8  HLw8
      go_upto_region 8 with fail
      have HS := hideIt (below_new w9 (.cells #[.int .i64 s.F, .int .i64 s.R, .int .i64 s.C, .slice D9 s.l.length c9] 24))
      have HB : Hid (BM (w9.alloc (.cells #[.int .i64 s.F, .int .i64 s.R, .int .i64 s.C, .slice D9 s.l.length c9] 24)) w9.heap.size s D9 c9) := hideIt ⟨Blk.new w9 _ _, HM9.out.keep (below_new _ _)⟩
      obtain ⟨w10, hV⟩ : ∃ V, V = w9.alloc (.cells #[.int .i64 s.F, .int .i64 s.R, .int .i64 s.C, .slice D9 s.l.length c9] 24) := ⟨_, rfl⟩
      rw [← hV] at HS HB ⊢
      obtain ⟨p18, hp⟩ : ∃ p, p = w9.heap.size := ⟨_, rfl⟩
      rw [← hp] at HB ⊢
      have HQ18w10 := HB
      clear hV hp HB HM9
      have hb := HS.out
      clear HS
      have HLw10 := hideIt (ls6 HLw9.out hb)
      have HQ5w10 := hideIt (HQ5w9.out.keep hb)
      have HQ6w10 := hideIt (HQ6w9.out.keep hb)
      have HQ12w10 := hideIt (HQ12w9.out.keep hb)
      have HQ14w10 := hideIt (HQ14w9.out.keep hb)
      have HQ16w10 := hideIt (HQ16w9.out.keep hb)
      clear hb HQ5w9 HQ6w9 HQ12w9 HQ14w9 HQ16w9  HLw9
      go_wp2_with (first | ((with_reducible refine at_load ?_); refine wpList_ldG (by kernel_rfl) (.tmp 5) rfl w.heap.size _ _ _ _ rfl HQ5w10.out.box ?_))
      refine (pick_any a0 rows _ _ _ _ w10 (HT.out.keep HLw10.out) HQ5w10.out.mat (HXR.out _ HLw10.out) mr kr).mono ?_
      rintro e w11 hres
      rw [HR3.out] at hres
      obtain ⟨D11, c11, rfl, hin, hb⟩ := hres.min2
      have HM11 := hideIt hin
      clear hin hres
      have HLw11 := hideIt (ls6 HLw10.out hb)
      have HQ5w11 := hideIt (HQ5w10.out.keep hb)
      have HQ6w11 := hideIt (HQ6w10.out.keep hb)
      have HQ12w11 := hideIt (HQ12w10.out.keep hb)
      have HQ14w11 := hideIt (HQ14w10.out.keep hb)
      have HQ16w11 := hideIt (HQ16w10.out.keep hb)
      have HQ18w11 := hideIt (HQ18w10.out.keep hb)
      clear hb HQ5w10 HQ6w10 HQ12w10 HQ14w10 HQ16w10 HQ18w10  HLw10
      go_upto_region 9 with fail
      have HS := hideIt (below_new w11 (.cells #[.int .i64 u.F, .int .i64 u.R, .int .i64 u.C, .slice D11 u.l.length c11] 24))
      have HB : Hid (BM (w11.alloc (.cells #[.int .i64 u.F, .int .i64 u.R, .int .i64 u.C, .slice D11 u.l.length c11] 24)) w11.heap.size u D11 c11) := hideIt ⟨Blk.new w11 _ _, HM11.out.keep (below_new _ _)⟩
      obtain ⟨w12, hV⟩ : ∃ V, V = w11.alloc (.cells #[.int .i64 u.F, .int .i64 u.R, .int .i64 u.C, .slice D11 u.l.length c11] 24) := ⟨_, rfl⟩
      rw [← hV] at HS HB ⊢
      obtain ⟨p20, hp⟩ : ∃ p, p = w11.heap.size := ⟨_, rfl⟩
      rw [← hp] at HB ⊢
      have HQ20w12 := HB
      clear hV hp HB HM11
      have hb := HS.out
      clear HS
      have HLw12 := hideIt (ls6 HLw11.out hb)
      have HQ5w12 := hideIt (HQ5w11.out.keep hb)
      have HQ6w12 := hideIt (HQ6w11.out.keep hb)
      have HQ12w12 := hideIt (HQ12w11.out.keep hb)
      have HQ14w12 := hideIt (HQ14w11.out.keep hb)
      have HQ16w12 := hideIt (HQ16w11.out.keep hb)
      have HQ18w12 := hideIt (HQ18w11.out.keep hb)
      clear hb HQ5w11 HQ6w11 HQ12w11 HQ14w11 HQ16w11 HQ18w11  HLw11
      go_wp2_with (first | ((with_reducible refine at_load ?_); refine wpList_ldG (by kernel_rfl) (.tmp 5) rfl w.heap.size _ _ _ _ rfl HQ5w12.out.box ?_))
      refine (rpick_any a0 rows _ _ _ _ w12 HQ5w12.out.mat (HXR.out _ HLw12.out) mr kr).mono ?_
      rintro e w13 hres
      rw [HR3.out] at hres
      obtain ⟨D13, c13, rfl, hin, hb⟩ := hres.min2
      have HM13 := hideIt hin
      clear hin hres
      have HLw13 := hideIt (ls6 HLw12.out hb)
      have HQ5w13 := hideIt (HQ5w12.out.keep hb)
      have HQ6w13 := hideIt (HQ6w12.out.keep hb)
      have HQ12w13 := hideIt (HQ12w12.out.keep hb)
      have HQ14w13 := hideIt (HQ14w12.out.keep hb)
      have HQ16w13 := hideIt (HQ16w12.out.keep hb)
      have HQ18w13 := hideIt (HQ18w12.out.keep hb)
      have HQ20w13 := hideIt (HQ20w12.out.keep hb)
      clear hb HQ5w12 HQ6w12 HQ12w12 HQ14w12 HQ16w12 HQ18w12 HQ20w12  HLw12
      go_upto_region 10 with fail
      have HS := hideIt (below_new w13 (.cells #[.int .i64 u.F, .int .i64 u.R, .int .i64 u.C, .slice D13 u.l.length c13] 24))
      have HB : Hid (BM (w13.alloc (.cells #[.int .i64 u.F, .int .i64 u.R, .int .i64 u.C, .slice D13 u.l.length c13] 24)) w13.heap.size u D13 c13) := hideIt ⟨Blk.new w13 _ _, HM13.out.keep (below_new _ _)⟩
      obtain ⟨w14, hV⟩ : ∃ V, V = w13.alloc (.cells #[.int .i64 u.F, .int .i64 u.R, .int .i64 u.C, .slice D13 u.l.length c13] 24) := ⟨_, rfl⟩
      rw [← hV] at HS HB ⊢
      obtain ⟨p22, hp⟩ : ∃ p, p = w13.heap.size := ⟨_, rfl⟩
      rw [← hp] at HB ⊢
      have HQ22w14 := HB
      clear hV hp HB HM13
      have hb := HS.out
      clear HS
      have HLw14 := hideIt (ls6 HLw13.out hb)
      have HQ5w14 := hideIt (HQ5w13.out.keep hb)
      have HQ6w14 := hideIt (HQ6w13.out.keep hb)
      have HQ12w14 := hideIt (HQ12w13.out.keep hb)
      have HQ14w14 := hideIt (HQ14w13.out.keep hb)
      have HQ16w14 := hideIt (HQ16w13.out.keep hb)
      have HQ18w14 := hideIt (HQ18w13.out.keep hb)
      have HQ20w14 := hideIt (HQ20w13.out.keep hb)
      clear hb HQ5w13 HQ6w13 HQ12w13 HQ14w13 HQ16w13 HQ18w13 HQ20w13  HLw13
      go_wp2_with (first | ((with_reducible refine at_load ?_); refine wpList_ldG (by kernel_rfl) (.tmp 5) rfl w.heap.size _ _ _ _ rfl HQ5w14.out.box ?_))
      refine (inver_any a0 _ _ w14 (HT.out.keep HLw14.out) HQ5w14.out.mat).mono ?_
      rintro e w15 hres
      rw [HR4.out] at hres
      obtain ⟨D15, c15, rfl, hin, hb⟩ := hres.min2
      have HM15 := hideIt hin
      clear hin hres
      have HLw15 := hideIt (ls6 HLw14.out hb)
      have HQ5w15 := hideIt (HQ5w14.out.keep hb)
      have HQ6w15 := hideIt (HQ6w14.out.keep hb)
      have HQ12w15 := hideIt (HQ12w14.out.keep hb)
      have HQ14w15 := hideIt (HQ14w14.out.keep hb)
      have HQ16w15 := hideIt (HQ16w14.out.keep hb)
      have HQ18w15 := hideIt (HQ18w14.out.keep hb)
      have HQ20w15 := hideIt (HQ20w14.out.keep hb)
      have HQ22w15 := hideIt (HQ22w14.out.keep hb)
      clear hb HQ5w14 HQ6w14 HQ12w14 HQ14w14 HQ16w14 HQ18w14 HQ20w14 HQ22w14  HLw14
      go_upto_region 11 with fail
      have HS := hideIt (below_new w15 (.cells #[.int .i64 x.F, .int .i64 x.R, .int .i64 x.C, .slice D15 x.l.length c15] 24))
      have HB : Hid (BM (w15.alloc (.cells #[.int .i64 x.F, .int .i64 x.R, .int .i64 x.C, .slice D15 x.l.length c15] 24)) w15.heap.size x D15 c15) := hideIt ⟨Blk.new w15 _ _, HM15.out.keep (below_new _ _)⟩
      obtain ⟨w16, hV⟩ : ∃ V, V = w15.alloc (.cells #[.int .i64 x.F, .int .i64 x.R, .int .i64 x.C, .slice D15 x.l.length c15] 24) := ⟨_, rfl⟩
      rw [← hV] at HS HB ⊢
      obtain ⟨p24, hp⟩ : ∃ p, p = w15.heap.size := ⟨_, rfl⟩
      rw [← hp] at HB ⊢
      have HQ24w16 := HB
      clear hV hp HB HM15
      have hb := HS.out
      clear HS
      have HLw16 := hideIt (ls6 HLw15.out hb)
      have HQ5w16 := hideIt (HQ5w15.out.keep hb)
      have HQ6w16 := hideIt (HQ6w15.out.keep hb)
      have HQ12w16 := hideIt (HQ12w15.out.keep hb)
      have HQ14w16 := hideIt (HQ14w15.out.keep hb)
      have HQ16w16 := hideIt (HQ16w15.out.keep hb)
      have HQ18w16 := hideIt (HQ18w15.out.keep hb)
      have HQ20w16 := hideIt (HQ20w15.out.keep hb)
      have HQ22w16 := hideIt (HQ22w15.out.keep hb)
      clear hb HQ5w15 HQ6w15 HQ12w15 HQ14w15 HQ16w15 HQ18w15 HQ20w15 HQ22w15  HLw15
      go_wp2_with (first | ((with_reducible refine at_load ?_); refine wpList_ldG (by kernel_rfl) (.tmp 5) rfl w.heap.size _ _ _ _ rfl HQ5w16.out.box ?_))
      refine (rinver_any a0 _ _ w16 HQ5w16.out.mat).mono ?_
      rintro e w17 hres
      rw [HR4.out] at hres
      obtain ⟨D17, c17, rfl, hin, hb⟩ := hres.min2
      have HM17 := hideIt hin
      clear hin hres
      have HLw17 := hideIt (ls6 HLw16.out hb)
      have HQ5w17 := hideIt (HQ5w16.out.keep hb)
      have HQ6w17 := hideIt (HQ6w16.out.keep hb)
      have HQ12w17 := hideIt (HQ12w16.out.keep hb)
      have HQ14w17 := hideIt (HQ14w16.out.keep hb)
      have HQ16w17 := hideIt (HQ16w16.out.keep hb)
      have HQ18w17 := hideIt (HQ18w16.out.keep hb)
      have HQ20w17 := hideIt (HQ20w16.out.keep hb)
      have HQ22w17 := hideIt (HQ22w16.out.keep hb)
      have HQ24w17 := hideIt (HQ24w16.out.keep hb)
      clear hb HQ5w16 HQ6w16 HQ12w16 HQ14w16 HQ16w16 HQ18w16 HQ20w16 HQ22w16 HQ24w16  HLw16
      go_upto_region 12 with fail
      have HS := hideIt (below_new w17 (.cells #[.int .i64 x.F, .int .i64 x.R, .int .i64 x.C, .slice D17 x.l.length c17] 24))
      have HB : Hid (BM (w17.alloc (.cells #[.int .i64 x.F, .int .i64 x.R, .int .i64 x.C, .slice D17 x.l.length c17] 24)) w17.heap.size x D17 c17) := hideIt ⟨Blk.new w17 _ _, HM17.out.keep (below_new _ _)⟩
      obtain ⟨w18, hV⟩ : ∃ V, V = w17.alloc (.cells #[.int .i64 x.F, .int .i64 x.R, .int .i64 x.C, .slice D17 x.l.length c17] 24) := ⟨_, rfl⟩
      rw [← hV] at HS HB ⊢
      obtain ⟨p26, hp⟩ : ∃ p, p = w17.heap.size := ⟨_, rfl⟩
      rw [← hp] at HB ⊢
      have HQ26w18 := HB
      clear hV hp HB HM17
      have hb := HS.out
      clear HS
      have HLw18 := hideIt (ls6 HLw17.out hb)
      have HQ5w18 := hideIt (HQ5w17.out.keep hb)
      have HQ6w18 := hideIt (HQ6w17.out.keep hb)
      have HQ12w18 := hideIt (HQ12w17.out.keep hb)
      have HQ14w18 := hideIt (HQ14w17.out.keep hb)
      have HQ16w18 := hideIt (HQ16w17.out.keep hb)
      have HQ18w18 := hideIt (HQ18w17.out.keep hb)
      have HQ20w18 := hideIt (HQ20w17.out.keep hb)
      have HQ22w18 := hideIt (HQ22w17.out.keep hb)
      have HQ24w18 := hideIt (HQ24w17.out.keep hb)
      clear hb HQ5w17 HQ6w17 HQ12w17 HQ14w17 HQ16w17 HQ18w17 HQ20w17 HQ22w17 HQ24w17  HLw17
      go_wp2_with (first | ((with_reducible refine at_load ?_); refine wpList_ldG (by kernel_rfl) (.tmp 12) rfl p12 _ _ _ _ rfl HQ12w18.out.box ?_) | ((with_reducible refine at_load ?_); refine wpList_ldG (by kernel_rfl) (.tmp 14) rfl p14 _ _ _ _ rfl HQ14w18.out.box ?_))
      refine (rsame_any p p D3 D5 c3 c5 w18 HQ12w18.out.mat HQ14w18.out.mat (Nat.le_trans HLP.out (by decide))).mono ?_
      rintro e w19 ⟨rfl, hb⟩
      rw [sameM_self]
      have HLw19 := hideIt (ls6 HLw18.out hb)
      have HQ5w19 := hideIt (HQ5w18.out.keep hb)
      have HQ6w19 := hideIt (HQ6w18.out.keep hb)
      have HQ12w19 := hideIt (HQ12w18.out.keep hb)
      have HQ14w19 := hideIt (HQ14w18.out.keep hb)
      have HQ16w19 := hideIt (HQ16w18.out.keep hb)
      have HQ18w19 := hideIt (HQ18w18.out.keep hb)
      have HQ20w19 := hideIt (HQ20w18.out.keep hb)
      have HQ22w19 := hideIt (HQ22w18.out.keep hb)
      have HQ24w19 := hideIt (HQ24w18.out.keep hb)
      have HQ26w19 := hideIt (HQ26w18.out.keep hb)
      clear hb HQ5w18 HQ6w18 HQ12w18 HQ14w18 HQ16w18 HQ18w18 HQ20w18 HQ22w18 HQ24w18 HQ26w18  HLw18
      go_wp2_with (first | ((with_reducible refine at_load ?_); refine wpList_ldG (by kernel_rfl) (.tmp 16) rfl p16 _ _ _ _ rfl HQ16w19.out.box ?_) | ((with_reducible refine at_load ?_); refine wpList_ldG (by kernel_rfl) (.tmp 18) rfl p18 _ _ _ _ rfl HQ18w19.out.box ?_))
      refine (rsame_any s s D7 D9 c7 c9 w19 HQ16w19.out.mat HQ18w19.out.mat (Nat.le_trans HLS.out (by decide))).mono ?_
      rintro e w20 ⟨rfl, hb⟩
      rw [sameM_self]
      have HLw20 := hideIt (ls6 HLw19.out hb)
      have HQ5w20 := hideIt (HQ5w19.out.keep hb)
      have HQ6w20 := hideIt (HQ6w19.out.keep hb)
      have HQ12w20 := hideIt (HQ12w19.out.keep hb)
      have HQ14w20 := hideIt (HQ14w19.out.keep hb)
      have HQ16w20 := hideIt (HQ16w19.out.keep hb)
      have HQ18w20 := hideIt (HQ18w19.out.keep hb)
      have HQ20w20 := hideIt (HQ20w19.out.keep hb)
      have HQ22w20 := hideIt (HQ22w19.out.keep hb)
      have HQ24w20 := hideIt (HQ24w19.out.keep hb)
      have HQ26w20 := hideIt (HQ26w19.out.keep hb)
      clear hb HQ5w19 HQ6w19 HQ12w19 HQ14w19 HQ16w19 HQ18w19 HQ20w19 HQ22w19 HQ24w19 HQ26w19  HLw19
      go_wp2_with (first | ((with_reducible refine at_load ?_); refine wpList_ldG (by kernel_rfl) (.tmp 20) rfl p20 _ _ _ _ rfl HQ20w20.out.box ?_) | ((with_reducible refine at_load ?_); refine wpList_ldG (by kernel_rfl) (.tmp 22) rfl p22 _ _ _ _ rfl HQ22w20.out.box ?_))
      refine (rsame_any u u D11 D13 c11 c13 w20 HQ20w20.out.mat HQ22w20.out.mat (Nat.le_trans HLU.out (by decide))).mono ?_
      rintro e w21 ⟨rfl, hb⟩
      rw [sameM_self]
      have HLw21 := hideIt (ls6 HLw20.out hb)
      have HQ5w21 := hideIt (HQ5w20.out.keep hb)
      have HQ6w21 := hideIt (HQ6w20.out.keep hb)
      have HQ12w21 := hideIt (HQ12w20.out.keep hb)
      have HQ14w21 := hideIt (HQ14w20.out.keep hb)
      have HQ16w21 := hideIt (HQ16w20.out.keep hb)
      have HQ18w21 := hideIt (HQ18w20.out.keep hb)
      have HQ20w21 := hideIt (HQ20w20.out.keep hb)
      have HQ22w21 := hideIt (HQ22w20.out.keep hb)
      have HQ24w21 := hideIt (HQ24w20.out.keep hb)
      have HQ26w21 := hideIt (HQ26w20.out.keep hb)
      clear hb HQ5w20 HQ6w20 HQ12w20 HQ14w20 HQ16w20 HQ18w20 HQ20w20 HQ22w20 HQ24w20 HQ26w20  HLw20
      go_wp2_with (first | ((with_reducible refine at_load ?_); refine wpList_ldG (by kernel_rfl) (.tmp 24) rfl p24 _ _ _ _ rfl HQ24w21.out.box ?_) | ((with_reducible refine at_load ?_); refine wpList_ldG (by kernel_rfl) (.tmp 26) rfl p26 _ _ _ _ rfl HQ26w21.out.box ?_))
      refine (rsame_any x x D15 D17 c15 c17 w21 HQ24w21.out.mat HQ26w21.out.mat (Nat.le_trans HLX.out (by decide))).mono ?_
      rintro e w22 ⟨rfl, hb⟩
      rw [sameM_self]
      have HLw22 := hideIt (ls6 HLw21.out hb)
      have HQ5w22 := hideIt (HQ5w21.out.keep hb)
      have HQ6w22 := hideIt (HQ6w21.out.keep hb)
      have HQ12w22 := hideIt (HQ12w21.out.keep hb)
      have HQ14w22 := hideIt (HQ14w21.out.keep hb)
      have HQ16w22 := hideIt (HQ16w21.out.keep hb)
      have HQ18w22 := hideIt (HQ18w21.out.keep hb)
      have HQ20w22 := hideIt (HQ20w21.out.keep hb)
      have HQ22w22 := hideIt (HQ22w21.out.keep hb)
      have HQ24w22 := hideIt (HQ24w21.out.keep hb)
      have HQ26w22 := hideIt (HQ26w21.out.keep hb)
      clear hb HQ5w21 HQ6w21 HQ12w21 HQ14w21 HQ16w21 HQ18w21 HQ20w21 HQ22w21 HQ24w21 HQ26w21  HLw21
      go_upto_region 13 with fail
      have HHK : Hid (∀ W' bt, Below w22.heap.size w22 W' → Hooks [(6, fun W => Blk W w.heap.size 24 (mtC a0.F a0.R a0.C (.slice A0 a0.l.length c0))), (8, fun W => Blk W w.heap.size 24 (mtC a0.F a0.R a0.C (.slice A0 a0.l.length c0))), (15, fun W => Blk W w.heap.size 24 (mtC a0.F a0.R a0.C (.slice A0 a0.l.length c0))), (19, fun W => Blk W w.heap.size 24 (mtC a0.F a0.R a0.C (.slice A0 a0.l.length c0))), (24, fun W => Blk W w.heap.size 24 (mtC a0.F a0.R a0.C (.slice A0 a0.l.length c0))), (26, fun W => Blk W w.heap.size 24 (mtC a0.F a0.R a0.C (.slice A0 a0.l.length c0))), (31, fun W => Blk W w.heap.size 24 (mtC a0.F a0.R a0.C (.slice A0 a0.l.length c0))), (33, fun W => Blk W w.heap.size 24 (mtC a0.F a0.R a0.C (.slice A0 a0.l.length c0)))] bt W') := hideIt (fun W' bt hb' => Hooks.add (HQ5w22.out.box.kept hb' HQ5w22.out.box.lt) (Hooks.add (HQ5w22.out.box.kept hb' HQ5w22.out.box.lt) (Hooks.add (HQ5w22.out.box.kept hb' HQ5w22.out.box.lt) (Hooks.add (HQ5w22.out.box.kept hb' HQ5w22.out.box.lt) (Hooks.add (HQ5w22.out.box.kept hb' HQ5w22.out.box.lt) (Hooks.add (HQ5w22.out.box.kept hb' HQ5w22.out.box.lt) (Hooks.add (HQ5w22.out.box.kept hb' HQ5w22.out.box.lt) (Hooks.add (HQ5w22.out.box.kept hb' HQ5w22.out.box.lt) (Hooks.nil _ _)))))))))
      have hb : Below w22.heap.size w22 w22.drew := (Below.refl _ _).drew
      refine loads_begin_n 37 [(6, fun W => Blk W w.heap.size 24 (mtC a0.F a0.R a0.C (.slice A0 a0.l.length c0))), (8, fun W => Blk W w.heap.size 24 (mtC a0.F a0.R a0.C (.slice A0 a0.l.length c0))), (15, fun W => Blk W w.heap.size 24 (mtC a0.F a0.R a0.C (.slice A0 a0.l.length c0))), (19, fun W => Blk W w.heap.size 24 (mtC a0.F a0.R a0.C (.slice A0 a0.l.length c0))), (24, fun W => Blk W w.heap.size 24 (mtC a0.F a0.R a0.C (.slice A0 a0.l.length c0))), (26, fun W => Blk W w.heap.size 24 (mtC a0.F a0.R a0.C (.slice A0 a0.l.length c0))), (31, fun W => Blk W w.heap.size 24 (mtC a0.F a0.R a0.C (.slice A0 a0.l.length c0))), (33, fun W => Blk W w.heap.size 24 (mtC a0.F a0.R a0.C (.slice A0 a0.l.length c0)))] rfl (by kernel_rfl) ?_
      generalize w22.drew = w23 at *
      have HDw23 := hideIt hb
      have HLw23 := hideIt (ls6 HLw22.out hb)
      have HQ5w23 := hideIt (HQ5w22.out.keep hb)
      have HQ6w23 := hideIt (HQ6w22.out.keep hb)
      have HQ12w23 := hideIt (HQ12w22.out.keep hb)
      have HQ14w23 := hideIt (HQ14w22.out.keep hb)
      have HQ16w23 := hideIt (HQ16w22.out.keep hb)
      have HQ18w23 := hideIt (HQ18w22.out.keep hb)
      have HQ20w23 := hideIt (HQ20w22.out.keep hb)
      have HQ22w23 := hideIt (HQ22w22.out.keep hb)
      have HQ24w23 := hideIt (HQ24w22.out.keep hb)
      have HQ26w23 := hideIt (HQ26w22.out.keep hb)
      clear hb HQ5w22 HQ6w22 HQ12w22 HQ14w22 HQ16w22 HQ18w22 HQ20w22 HQ22w22 HQ24w22 HQ26w22  HLw22
      refine wpAnyL_one (o := ⟨some 125, _, _, _, _, _⟩) 0 (by kernel_rfl) rfl (fun K hK => ?_)
      go_wp2_with fail
      refine (sanity_any w23 (HT.out.keep HLw23.out)).mono ?_
      rintro e w24 ⟨rfl, hb⟩
      have HDw24 := hideIt (ls6 HDw23.out hb)
      have HLw24 := hideIt (ls6 HLw23.out hb)
      have HQ5w24 := hideIt (HQ5w23.out.keep hb)
      have HQ6w24 := hideIt (HQ6w23.out.keep hb)
      have HQ12w24 := hideIt (HQ12w23.out.keep hb)
      have HQ14w24 := hideIt (HQ14w23.out.keep hb)
      have HQ16w24 := hideIt (HQ16w23.out.keep hb)
      have HQ18w24 := hideIt (HQ18w23.out.keep hb)
      have HQ20w24 := hideIt (HQ20w23.out.keep hb)
      have HQ22w24 := hideIt (HQ22w23.out.keep hb)
      have HQ24w24 := hideIt (HQ24w23.out.keep hb)
      have HQ26w24 := hideIt (HQ26w23.out.keep hb)
      clear hb HQ5w23 HQ6w23 HQ12w23 HQ14w23 HQ16w23 HQ18w23 HQ20w23 HQ22w23 HQ24w23 HQ26w23  HLw23
      go_wp2_with fail
      refine hK _ _ (HHK.out _ _ HDw24.out) ?_
      clear hK K
      refine wpAnyL_move (oi := ⟨some 126, _, _, _, _, _⟩) 1 ?_ rfl (by kernel_rfl) (by kernel_rfl) (by kernel_rfl) (by kernel_rfl) (fun _ _ _ h => h) (by kernel_rfl) ?_ (HHK.out _ _ HDw24.out) ?_
      rotate_left
      · intro W'; go_simp; first | done | with_reducible rfl
      try simp only [Act.put]
      try simp only [List.setIfInBounds_toArray]
      try simp only [List.set_cons_succ]
      try simp only [List.set_cons_zero]
      refine wpAnyL_move (oi := ⟨some 127, _, _, _, _, _⟩) 2 ?_ rfl (by kernel_rfl) (by kernel_rfl) (by kernel_rfl) (by kernel_rfl) (fun _ _ _ h => h) (by kernel_rfl) ?_ (HHK.out _ _ HDw24.out) ?_
      rotate_left
      · intro W'; go_simp; first | done | with_reducible rfl
      try simp only [Act.put]
      try simp only [List.setIfInBounds_toArray]
      try simp only [List.set_cons_succ]
      try simp only [List.set_cons_zero]
      refine wpAnyL_move (oi := ⟨some 128, _, _, _, _, _⟩) 3 ?_ rfl (by kernel_rfl) (by kernel_rfl) (by kernel_rfl) (by kernel_rfl) (fun _ _ _ h => h) (by kernel_rfl) ?_ (HHK.out _ _ HDw24.out) ?_
      rotate_left
      · intro W'; go_simp; first | done | with_reducible rfl
      try simp only [Act.put]
      try simp only [List.setIfInBounds_toArray]
      try simp only [List.set_cons_succ]
      try simp only [List.set_cons_zero]
      refine wpAnyL_move (oi := ⟨some 129, _, _, _, _, _⟩) 4 ?_ rfl (by kernel_rfl) (by kernel_rfl) (by kernel_rfl) (by kernel_rfl) (fun _ _ _ h => h) (by kernel_rfl) ?_ (HHK.out _ _ HDw24.out) ?_
      rotate_left
      · intro W'; go_simp; first | done | with_reducible rfl
      try simp only [Act.put]
      try simp only [List.setIfInBounds_toArray]
      try simp only [List.set_cons_succ]
      try simp only [List.set_cons_zero]
      refine wpAnyL_take (oi := ⟨some 130, _, _, _, _, _⟩) 5 6 (mtV a0.F a0.R a0.C (.slice A0 a0.l.length c0)) _ rfl (by kernel_rfl) (by kernel_rfl) (by kernel_rfl) (by kernel_rfl) (by kernel_rfl) (by kernel_rfl) (.head _) (fun _ _ _ h => h) (by kernel_rfl) (fun W' hW' => exec_ld rfl (ld_mt hW')) (HHK.out _ _ HDw24.out) ?_
      try simp only [Act.put]
      try simp only [List.setIfInBounds_toArray]
      try simp only [List.set_cons_succ]
      try simp only [List.set_cons_zero]
      refine wpAnyL_take (oi := ⟨some 132, _, _, _, _, _⟩) 7 8 (mtV a0.F a0.R a0.C (.slice A0 a0.l.length c0)) _ rfl (by kernel_rfl) (by kernel_rfl) (by kernel_rfl) (by kernel_rfl) (by kernel_rfl) (by kernel_rfl) (.tail _ (.head _)) (fun _ _ _ h => h) (by kernel_rfl) (fun W' hW' => exec_ld rfl (ld_mt hW')) (HHK.out _ _ HDw24.out) ?_
      try simp only [Act.put]
      try simp only [List.setIfInBounds_toArray]
      try simp only [List.set_cons_succ]
      try simp only [List.set_cons_zero]
      refine wpAnyL_one (o := ⟨some 131, _, _, _, _, _⟩) 6 (by kernel_rfl) rfl (fun K hK => ?_)
      go_wp2_with fail
      refine (mvalid_b (HT.out.keep HLw24.out) HQ5w24.out.mat w24 (Below.refl _ _)).mono ?_
      rintro e w25 ⟨rfl, hb⟩
      rw [HVB.out]
      have HDw25 := hideIt (ls6 HDw24.out hb)
      have HLw25 := hideIt (ls6 HLw24.out hb)
      have HQ5w25 := hideIt (HQ5w24.out.keep hb)
      have HQ6w25 := hideIt (HQ6w24.out.keep hb)
      have HQ12w25 := hideIt (HQ12w24.out.keep hb)
      have HQ14w25 := hideIt (HQ14w24.out.keep hb)
      have HQ16w25 := hideIt (HQ16w24.out.keep hb)
      have HQ18w25 := hideIt (HQ18w24.out.keep hb)
      have HQ20w25 := hideIt (HQ20w24.out.keep hb)
      have HQ22w25 := hideIt (HQ22w24.out.keep hb)
      have HQ24w25 := hideIt (HQ24w24.out.keep hb)
      have HQ26w25 := hideIt (HQ26w24.out.keep hb)
      clear hb HQ5w24 HQ6w24 HQ12w24 HQ14w24 HQ16w24 HQ18w24 HQ20w24 HQ22w24 HQ24w24 HQ26w24  HLw24
      go_wp2_with fail
      refine hK _ _ (HHK.out _ _ HDw25.out) ?_
      clear hK K
      refine wpAnyL_one (o := ⟨some 133, _, _, _, _, _⟩) 8 (by kernel_rfl) rfl (fun K hK => ?_)
      go_wp2_with fail
      refine (rvalid_b HQ5w25.out.mat w25 (Below.refl _ _)).mono ?_
      rintro e w26 ⟨rfl, hb⟩
      rw [HVB.out]
      have HDw26 := hideIt (ls6 HDw25.out hb)
      have HLw26 := hideIt (ls6 HLw25.out hb)
      have HQ5w26 := hideIt (HQ5w25.out.keep hb)
      have HQ6w26 := hideIt (HQ6w25.out.keep hb)
      have HQ12w26 := hideIt (HQ12w25.out.keep hb)
      have HQ14w26 := hideIt (HQ14w25.out.keep hb)
      have HQ16w26 := hideIt (HQ16w25.out.keep hb)
      have HQ18w26 := hideIt (HQ18w25.out.keep hb)
      have HQ20w26 := hideIt (HQ20w25.out.keep hb)
      have HQ22w26 := hideIt (HQ22w25.out.keep hb)
      have HQ24w26 := hideIt (HQ24w25.out.keep hb)
      have HQ26w26 := hideIt (HQ26w25.out.keep hb)
      clear hb HQ5w25 HQ6w25 HQ12w25 HQ14w25 HQ16w25 HQ18w25 HQ20w25 HQ22w25 HQ24w25 HQ26w25  HLw25
      go_wp2_with fail
      refine hK _ _ (HHK.out _ _ HDw26.out) ?_
      clear hK K
      refine wpAnyL_move (oi := ⟨some 134, _, _, _, _, _⟩) 9 ?_ rfl (by kernel_rfl) (by kernel_rfl) (by kernel_rfl) (by kernel_rfl) (fun _ _ _ h => h) (by kernel_rfl) ?_ (HHK.out _ _ HDw26.out) ?_
      rotate_left
      · intro W'; go_simp; first | done | with_reducible rfl
      try simp only [Act.put]
      try simp only [List.setIfInBounds_toArray]
      try simp only [List.set_cons_succ]
      try simp only [List.set_cons_zero]
      refine wpAnyL_move (oi := ⟨some 135, _, _, _, _, _⟩) 10 ?_ rfl (by kernel_rfl) (by kernel_rfl) (by kernel_rfl) (by kernel_rfl) (fun _ _ _ h => h) (by kernel_rfl) ?_ (HHK.out _ _ HDw26.out) ?_
      rotate_left
      · intro W'; go_simp; first | done | with_reducible rfl
      try simp only [Act.put]
      try simp only [List.setIfInBounds_toArray]
      try simp only [List.set_cons_succ]
      try simp only [List.set_cons_zero]
      refine wpAnyL_move (oi := ⟨some 136, _, _, _, _, _⟩) 11 ?_ rfl (by kernel_rfl) (by kernel_rfl) (by kernel_rfl) (by kernel_rfl) (fun _ _ _ h => h) (by kernel_rfl) ?_ (HHK.out _ _ HDw26.out) ?_
      rotate_left
      · intro W'; go_simp; first | done | with_reducible rfl
      try simp only [Act.put]
      try simp only [List.setIfInBounds_toArray]
      try simp only [List.set_cons_succ]
      try simp only [List.set_cons_zero]
      refine wpAnyL_take (oi := ⟨some 137, _, _, _, _, _⟩) 12 15 (mtV a0.F a0.R a0.C (.slice A0 a0.l.length c0)) _ rfl (by kernel_rfl) (by kernel_rfl) (by kernel_rfl) (by kernel_rfl) (by kernel_rfl) (by kernel_rfl) (.tail _ (.tail _ (.head _))) (fun _ _ _ h => h) (by kernel_rfl) (fun W' hW' => exec_ld rfl (ld_mt hW')) (HHK.out _ _ HDw26.out) ?_
      try simp only [Act.put]
      try simp only [List.setIfInBounds_toArray]
      try simp only [List.set_cons_succ]
      try simp only [List.set_cons_zero]
      refine wpAnyL_move (oi := ⟨some 138, _, _, _, _, _⟩) 13 ?_ rfl (by kernel_rfl) (by kernel_rfl) (by kernel_rfl) (by kernel_rfl) (fun _ _ _ h => h) (by kernel_rfl) ?_ (HHK.out _ _ HDw26.out) ?_
      rotate_left
      · intro W'; go_simp; first | done | with_reducible rfl
      try simp only [Act.put]
      try simp only [List.setIfInBounds_toArray]
      try simp only [List.set_cons_succ]
      try simp only [List.set_cons_zero]
      refine wpAnyL_move (oi := ⟨some 139, _, _, _, _, _⟩) 14 ?_ rfl (by kernel_rfl) (by kernel_rfl) (by kernel_rfl) (by kernel_rfl) (fun _ _ _ h => h) (by kernel_rfl) ?_ (HHK.out _ _ HDw26.out) ?_
      rotate_left
      · intro W'; go_simp; first | done | with_reducible rfl
      try simp only [Act.put]
      try simp only [List.setIfInBounds_toArray]
      try simp only [List.set_cons_succ]
      try simp only [List.set_cons_zero]
      refine wpAnyL_take (oi := ⟨some 141, _, _, _, _, _⟩) 16 19 (mtV a0.F a0.R a0.C (.slice A0 a0.l.length c0)) _ rfl (by kernel_rfl) (by kernel_rfl) (by kernel_rfl) (by kernel_rfl) (by kernel_rfl) (by kernel_rfl) (.tail _ (.tail _ (.tail _ (.head _)))) (fun _ _ _ h => h) (by kernel_rfl) (fun W' hW' => exec_ld rfl (ld_mt hW')) (HHK.out _ _ HDw26.out) ?_
      try simp only [Act.put]
      try simp only [List.setIfInBounds_toArray]
      try simp only [List.set_cons_succ]
      try simp only [List.set_cons_zero]
      refine wpAnyL_move (oi := ⟨some 142, _, _, _, _, _⟩) 17 ?_ rfl (by kernel_rfl) (by kernel_rfl) (by kernel_rfl) (by kernel_rfl) (fun _ _ _ h => h) (by kernel_rfl) ?_ (HHK.out _ _ HDw26.out) ?_
      rotate_left
      · intro W'; go_simp; first | done | with_reducible rfl
      try simp only [Act.put]
      try simp only [List.setIfInBounds_toArray]
      try simp only [List.set_cons_succ]
      try simp only [List.set_cons_zero]
      refine wpAnyL_move (oi := ⟨some 143, _, _, _, _, _⟩) 18 ?_ rfl (by kernel_rfl) (by kernel_rfl) (by kernel_rfl) (by kernel_rfl) (fun _ _ _ h => h) (by kernel_rfl) ?_ (HHK.out _ _ HDw26.out) ?_
      rotate_left
      · intro W'; go_simp; first | done | with_reducible rfl
      try simp only [Act.put]
      try simp only [List.setIfInBounds_toArray]
      try simp only [List.set_cons_succ]
      try simp only [List.set_cons_zero]
      refine wpAnyL_one (o := ⟨some 140, _, _, _, _, _⟩) 15 (by kernel_rfl) rfl (fun K hK => ?_)
      go_wp2_with fail
      refine (at_any a0 a3 a4 _ _ w26 (HT.out.keep HLw26.out) HQ5w26.out.mat).mono ?_
      rintro e w27 ⟨rfl, hb⟩
      rw [HAT.out]
      have HDw27 := hideIt (ls6 HDw26.out hb)
      have HLw27 := hideIt (ls6 HLw26.out hb)
      have HQ5w27 := hideIt (HQ5w26.out.keep hb)
      have HQ6w27 := hideIt (HQ6w26.out.keep hb)
      have HQ12w27 := hideIt (HQ12w26.out.keep hb)
      have HQ14w27 := hideIt (HQ14w26.out.keep hb)
      have HQ16w27 := hideIt (HQ16w26.out.keep hb)
      have HQ18w27 := hideIt (HQ18w26.out.keep hb)
      have HQ20w27 := hideIt (HQ20w26.out.keep hb)
      have HQ22w27 := hideIt (HQ22w26.out.keep hb)
      have HQ24w27 := hideIt (HQ24w26.out.keep hb)
      have HQ26w27 := hideIt (HQ26w26.out.keep hb)
      clear hb HQ5w26 HQ6w26 HQ12w26 HQ14w26 HQ16w26 HQ18w26 HQ20w26 HQ22w26 HQ24w26 HQ26w26  HLw26
      go_wp2_with fail
      refine hK _ _ (HHK.out _ _ HDw27.out) ?_
      clear hK K
      refine wpAnyL_one (o := ⟨some 144, _, _, _, _, _⟩) 19 (by kernel_rfl) rfl (fun K hK => ?_)
      go_wp2_with fail
      refine (rat_any a0 a3 a4 _ _ w27 HQ5w27.out.mat).mono ?_
      rintro e w28 ⟨rfl, hb⟩
      rw [HAT.out]
      have HDw28 := hideIt (ls6 HDw27.out hb)
      have HLw28 := hideIt (ls6 HLw27.out hb)
      have HQ5w28 := hideIt (HQ5w27.out.keep hb)
      have HQ6w28 := hideIt (HQ6w27.out.keep hb)
      have HQ12w28 := hideIt (HQ12w27.out.keep hb)
      have HQ14w28 := hideIt (HQ14w27.out.keep hb)
      have HQ16w28 := hideIt (HQ16w27.out.keep hb)
      have HQ18w28 := hideIt (HQ18w27.out.keep hb)
      have HQ20w28 := hideIt (HQ20w27.out.keep hb)
      have HQ22w28 := hideIt (HQ22w27.out.keep hb)
      have HQ24w28 := hideIt (HQ24w27.out.keep hb)
      have HQ26w28 := hideIt (HQ26w27.out.keep hb)
      clear hb HQ5w27 HQ6w27 HQ12w27 HQ14w27 HQ16w27 HQ18w27 HQ20w27 HQ22w27 HQ24w27 HQ26w27  HLw27
      go_wp2_with fail
      refine hK _ _ (HHK.out _ _ HDw28.out) ?_
      clear hK K
      refine wpAnyL_move (oi := ⟨some 145, _, _, _, _, _⟩) 20 ?_ rfl (by kernel_rfl) (by kernel_rfl) (by kernel_rfl) (by kernel_rfl) (fun _ _ _ h => h) (by kernel_rfl) ?_ (HHK.out _ _ HDw28.out) ?_
      rotate_left
      · intro W'; go_simp; first | done | with_reducible rfl
      try simp only [Act.put]
      try simp only [List.setIfInBounds_toArray]
      try simp only [List.set_cons_succ]
      try simp only [List.set_cons_zero]
      refine wpAnyL_move (oi := ⟨some 146, _, _, _, _, _⟩) 21 ?_ rfl (by kernel_rfl) (by kernel_rfl) (by kernel_rfl) (by kernel_rfl) (fun _ _ _ h => h) (by kernel_rfl) ?_ (HHK.out _ _ HDw28.out) ?_
      rotate_left
      · intro W'; go_simp; first | done | with_reducible rfl
      try simp only [Act.put]
      try simp only [List.setIfInBounds_toArray]
      try simp only [List.set_cons_succ]
      try simp only [List.set_cons_zero]
      refine wpAnyL_move (oi := ⟨some 147, _, _, _, _, _⟩) 22 ?_ rfl (by kernel_rfl) (by kernel_rfl) (by kernel_rfl) (by kernel_rfl) (fun _ _ _ h => h) (by kernel_rfl) ?_ (HHK.out _ _ HDw28.out) ?_
      rotate_left
      · intro W'; go_simp; first | done | with_reducible rfl
      try simp only [Act.put]
      try simp only [List.setIfInBounds_toArray]
      try simp only [List.set_cons_succ]
      try simp only [List.set_cons_zero]
      refine wpAnyL_take (oi := ⟨some 148, _, _, _, _, _⟩) 23 24 (mtV a0.F a0.R a0.C (.slice A0 a0.l.length c0)) _ rfl (by kernel_rfl) (by kernel_rfl) (by kernel_rfl) (by kernel_rfl) (by kernel_rfl) (by kernel_rfl) (.tail _ (.tail _ (.tail _ (.tail _ (.head _))))) (fun _ _ _ h => h) (by kernel_rfl) (fun W' hW' => exec_ld rfl (ld_mt hW')) (HHK.out _ _ HDw28.out) ?_
      try simp only [Act.put]
      try simp only [List.setIfInBounds_toArray]
      try simp only [List.set_cons_succ]
      try simp only [List.set_cons_zero]
      refine wpAnyL_take (oi := ⟨some 150, _, _, _, _, _⟩) 25 26 (mtV a0.F a0.R a0.C (.slice A0 a0.l.length c0)) _ rfl (by kernel_rfl) (by kernel_rfl) (by kernel_rfl) (by kernel_rfl) (by kernel_rfl) (by kernel_rfl) (.tail _ (.tail _ (.tail _ (.tail _ (.tail _ (.head _)))))) (fun _ _ _ h => h) (by kernel_rfl) (fun W' hW' => exec_ld rfl (ld_mt hW')) (HHK.out _ _ HDw28.out) ?_
      try simp only [Act.put]
      try simp only [List.setIfInBounds_toArray]
      try simp only [List.set_cons_succ]
      try simp only [List.set_cons_zero]
      refine wpAnyL_one (o := ⟨some 149, _, _, _, _, _⟩) 24 (by kernel_rfl) rfl (fun K hK => ?_)
      go_wp2_with fail
      refine (rank_any a0 _ _ w28 (HT.out.keep HLw28.out) HQ5w28.out.mat).mono ?_
      rintro e w29 ⟨rfl, hb⟩
      rw [HRK.out]
      have HDw29 := hideIt (ls6 HDw28.out hb)
      have HLw29 := hideIt (ls6 HLw28.out hb)
      have HQ5w29 := hideIt (HQ5w28.out.keep hb)
      have HQ6w29 := hideIt (HQ6w28.out.keep hb)
      have HQ12w29 := hideIt (HQ12w28.out.keep hb)
      have HQ14w29 := hideIt (HQ14w28.out.keep hb)
      have HQ16w29 := hideIt (HQ16w28.out.keep hb)
      have HQ18w29 := hideIt (HQ18w28.out.keep hb)
      have HQ20w29 := hideIt (HQ20w28.out.keep hb)
      have HQ22w29 := hideIt (HQ22w28.out.keep hb)
      have HQ24w29 := hideIt (HQ24w28.out.keep hb)
      have HQ26w29 := hideIt (HQ26w28.out.keep hb)
      clear hb HQ5w28 HQ6w28 HQ12w28 HQ14w28 HQ16w28 HQ18w28 HQ20w28 HQ22w28 HQ24w28 HQ26w28  HLw28
      go_wp2_with fail
      refine hK _ _ (HHK.out _ _ HDw29.out) ?_
      clear hK K
      refine wpAnyL_one (o := ⟨some 151, _, _, _, _, _⟩) 26 (by kernel_rfl) rfl (fun K hK => ?_)
      go_wp2_with fail
      refine (rrank_any a0 _ _ w29 HQ5w29.out.mat).mono ?_
      rintro e w30 ⟨rfl, hb⟩
      rw [HRK.out]
      have HDw30 := hideIt (ls6 HDw29.out hb)
      have HLw30 := hideIt (ls6 HLw29.out hb)
      have HQ5w30 := hideIt (HQ5w29.out.keep hb)
      have HQ6w30 := hideIt (HQ6w29.out.keep hb)
      have HQ12w30 := hideIt (HQ12w29.out.keep hb)
      have HQ14w30 := hideIt (HQ14w29.out.keep hb)
      have HQ16w30 := hideIt (HQ16w29.out.keep hb)
      have HQ18w30 := hideIt (HQ18w29.out.keep hb)
      have HQ20w30 := hideIt (HQ20w29.out.keep hb)
      have HQ22w30 := hideIt (HQ22w29.out.keep hb)
      have HQ24w30 := hideIt (HQ24w29.out.keep hb)
      have HQ26w30 := hideIt (HQ26w29.out.keep hb)
      clear hb HQ5w29 HQ6w29 HQ12w29 HQ14w29 HQ16w29 HQ18w29 HQ20w29 HQ22w29 HQ24w29 HQ26w29  HLw29
      go_wp2_with fail
      refine hK _ _ (HHK.out _ _ HDw30.out) ?_
      clear hK K
      refine wpAnyL_move (oi := ⟨some 152, _, _, _, _, _⟩) 27 ?_ rfl (by kernel_rfl) (by kernel_rfl) (by kernel_rfl) (by kernel_rfl) (fun _ _ _ h => h) (by kernel_rfl) ?_ (HHK.out _ _ HDw30.out) ?_
      rotate_left
      · intro W'; go_simp; first | done | with_reducible rfl
      try simp only [Act.put]
      try simp only [List.setIfInBounds_toArray]
      try simp only [List.set_cons_succ]
      try simp only [List.set_cons_zero]
      refine wpAnyL_move (oi := ⟨some 153, _, _, _, _, _⟩) 28 ?_ rfl (by kernel_rfl) (by kernel_rfl) (by kernel_rfl) (by kernel_rfl) (fun _ _ _ h => h) (by kernel_rfl) ?_ (HHK.out _ _ HDw30.out) ?_
      rotate_left
      · intro W'; go_simp; first | done | with_reducible rfl
      try simp only [Act.put]
      try simp only [List.setIfInBounds_toArray]
      try simp only [List.set_cons_succ]
      try simp only [List.set_cons_zero]
      refine wpAnyL_move (oi := ⟨some 154, _, _, _, _, _⟩) 29 ?_ rfl (by kernel_rfl) (by kernel_rfl) (by kernel_rfl) (by kernel_rfl) (fun _ _ _ h => h) (by kernel_rfl) ?_ (HHK.out _ _ HDw30.out) ?_
      rotate_left
      · intro W'; go_simp; first | done | with_reducible rfl
      try simp only [Act.put]
      try simp only [List.setIfInBounds_toArray]
      try simp only [List.set_cons_succ]
      try simp only [List.set_cons_zero]
      refine wpAnyL_take (oi := ⟨some 155, _, _, _, _, _⟩) 30 31 (mtV a0.F a0.R a0.C (.slice A0 a0.l.length c0)) _ rfl (by kernel_rfl) (by kernel_rfl) (by kernel_rfl) (by kernel_rfl) (by kernel_rfl) (by kernel_rfl) (.tail _ (.tail _ (.tail _ (.tail _ (.tail _ (.tail _ (.head _))))))) (fun _ _ _ h => h) (by kernel_rfl) (fun W' hW' => exec_ld rfl (ld_mt hW')) (HHK.out _ _ HDw30.out) ?_
      try simp only [Act.put]
      try simp only [List.setIfInBounds_toArray]
      try simp only [List.set_cons_succ]
      try simp only [List.set_cons_zero]
      refine wpAnyL_take (oi := ⟨some 157, _, _, _, _, _⟩) 32 33 (mtV a0.F a0.R a0.C (.slice A0 a0.l.length c0)) _ rfl (by kernel_rfl) (by kernel_rfl) (by kernel_rfl) (by kernel_rfl) (by kernel_rfl) (by kernel_rfl) (.tail _ (.tail _ (.tail _ (.tail _ (.tail _ (.tail _ (.tail _ (.head _)))))))) (fun _ _ _ h => h) (by kernel_rfl) (fun W' hW' => exec_ld rfl (ld_mt hW')) (HHK.out _ _ HDw30.out) ?_
      try simp only [Act.put]
      try simp only [List.setIfInBounds_toArray]
      try simp only [List.set_cons_succ]
      try simp only [List.set_cons_zero]
      refine wpAnyL_one (o := ⟨some 156, _, _, _, _, _⟩) 31 (by kernel_rfl) rfl (fun K hK => ?_)
      go_wp2_with fail
      refine (indep_any a0 _ _ w30 (HT.out.keep HLw30.out) HQ5w30.out.mat).mono ?_
      rintro e w31 ⟨vv, rfl, ho, hb⟩
      rw [HI.out] at ho
      obtain ⟨D31, c31, rfl, hmi⟩ := MRes.min (a := ⟨0, 0, 0, l⟩) ho
      have HM_31 := hideIt hmi
      clear ho hmi
      have HDw31 := hideIt (ls6 HDw30.out hb)
      have HLw31 := hideIt (ls6 HLw30.out hb)
      have HQ5w31 := hideIt (HQ5w30.out.keep hb)
      have HQ6w31 := hideIt (HQ6w30.out.keep hb)
      have HQ12w31 := hideIt (HQ12w30.out.keep hb)
      have HQ14w31 := hideIt (HQ14w30.out.keep hb)
      have HQ16w31 := hideIt (HQ16w30.out.keep hb)
      have HQ18w31 := hideIt (HQ18w30.out.keep hb)
      have HQ20w31 := hideIt (HQ20w30.out.keep hb)
      have HQ22w31 := hideIt (HQ22w30.out.keep hb)
      have HQ24w31 := hideIt (HQ24w30.out.keep hb)
      have HQ26w31 := hideIt (HQ26w30.out.keep hb)
      clear hb HQ5w30 HQ6w30 HQ12w30 HQ14w30 HQ16w30 HQ18w30 HQ20w30 HQ22w30 HQ24w30 HQ26w30  HLw30
      go_wp2_with fail
      refine hK _ _ (HHK.out _ _ HDw31.out) ?_
      clear hK K
      refine wpAnyL_one (o := ⟨some 158, _, _, _, _, _⟩) 33 (by kernel_rfl) rfl (fun K hK => ?_)
      go_wp2_with fail
      refine (rindep_any a0 _ _ w31 HQ5w31.out.mat).mono ?_
      rintro e w32 ⟨vv, rfl, ho, hb⟩
      rw [HI.out] at ho
      obtain ⟨D33, c33, rfl, hmi⟩ := MRes.min (a := ⟨0, 0, 0, l⟩) ho
      have HM_33 := hideIt hmi
      clear ho hmi
      have HDw32 := hideIt (ls6 HDw31.out hb)
      have HLw32 := hideIt (ls6 HLw31.out hb)
      have HQ5w32 := hideIt (HQ5w31.out.keep hb)
      have HQ6w32 := hideIt (HQ6w31.out.keep hb)
      have HQ12w32 := hideIt (HQ12w31.out.keep hb)
      have HQ14w32 := hideIt (HQ14w31.out.keep hb)
      have HQ16w32 := hideIt (HQ16w31.out.keep hb)
      have HQ18w32 := hideIt (HQ18w31.out.keep hb)
      have HQ20w32 := hideIt (HQ20w31.out.keep hb)
      have HQ22w32 := hideIt (HQ22w31.out.keep hb)
      have HQ24w32 := hideIt (HQ24w31.out.keep hb)
      have HQ26w32 := hideIt (HQ26w31.out.keep hb)
      have HM_31w32 := hideIt (HM_31.out.keep hb)
      clear hb HQ5w31 HQ6w31 HQ12w31 HQ14w31 HQ16w31 HQ18w31 HQ20w31 HQ22w31 HQ24w31 HQ26w31 HM_31 HLw31
      go_wp2_with fail
      refine hK _ _ (HHK.out _ _ HDw32.out) ?_
      clear hK K
      refine wpAnyL_one (o := ⟨some 159, _, _, _, _, _⟩) 34 (by kernel_rfl) rfl (fun K hK => ?_)
      go_wp2_with fail
      refine (ints_any l l _ _ _ _ w32 HM_31w32.out.sl HM_33.out.sl (Nat.le_trans HLL.out (by decide))).mono ?_
      rintro e w33 ⟨rfl, hb⟩
      rw [show decide (l = l) = true from decide_eq_true rfl]
      have HDw33 := hideIt (ls6 HDw32.out hb)
      have HLw33 := hideIt (ls6 HLw32.out hb)
      have HQ5w33 := hideIt (HQ5w32.out.keep hb)
      have HQ6w33 := hideIt (HQ6w32.out.keep hb)
      have HQ12w33 := hideIt (HQ12w32.out.keep hb)
      have HQ14w33 := hideIt (HQ14w32.out.keep hb)
      have HQ16w33 := hideIt (HQ16w32.out.keep hb)
      have HQ18w33 := hideIt (HQ18w32.out.keep hb)
      have HQ20w33 := hideIt (HQ20w32.out.keep hb)
      have HQ22w33 := hideIt (HQ22w32.out.keep hb)
      have HQ24w33 := hideIt (HQ24w32.out.keep hb)
      have HQ26w33 := hideIt (HQ26w32.out.keep hb)
      have HM_31w33 := hideIt (HM_31w32.out.keep hb)
      have HM_33w33 := hideIt (HM_33.out.keep hb)
      clear hb HQ5w32 HQ6w32 HQ12w32 HQ14w32 HQ16w32 HQ18w32 HQ20w32 HQ22w32 HQ24w32 HQ26w32 HM_31w32 HM_33 HLw32
      go_wp2_with fail
      refine hK _ _ (HHK.out _ _ HDw33.out) ?_
      clear hK K
      refine loads_tail 35 (by kernel_rfl) (by kernel_rfl) (by kernel_rfl) (by kernel_rfl) ?_
      simp only [List.drop_succ_cons, List.drop_zero]
      go_wp2_with fail
      go_ret
      exact ⟨rfl, HLw33.out⟩
    · have d1 : decide ((40 : Int) < ((rows.length : Nat) : Int)) = true := decide_eq_true (by omega)
      clear h40
      go_wp2_with fail
      refine (sanity_any wc (HT.out.keep HLwc.out)).mono ?_
      rintro e w3 ⟨rfl, hb⟩
      have HLw3 := hideIt (ls6 HLwc.out hb)
      have HQ5w3 := hideIt (HQ5wc.out.keep hb)
      have HQ6w3 := hideIt (HQ6wc.out.keep hb)
      clear hb HQ5wc HQ6wc  HLwc
      go_wp2_with fail
      go_ret
      exact ⟨rfl, HLw3.out⟩

end Go.Proofs.YtodmcojcmihooaaDoor.matrixMatchesSpec
