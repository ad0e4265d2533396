/-
  The walk of the law: For every three matrices whose products exist, the product is associative, and the transposed product is the product of the transposed factors in reverse order.
-/
import Derived.Test.YtodmcojcmihooaaDoorMatJ
import Derived.Test.YtodmcojcmihooaaDoorMatSan
import Derived.Test.YtodmcojcmihooaaDoorArgM
namespace Go.Proofs.YtodmcojcmihooaaDoor.matrixAssociates
open Go.RowKit
set_option linter.unusedVariables false

set_option maxHeartbeats 4000000 in
set_option maxRecDepth 100000 in
theorem walk (a0 : Mt) (A0 : Option Addr) (c0 : Nat) (a1 : Mt) (A1 : Option Addr) (c1 : Nat) (a2 : Mt) (A2 : Option Addr) (c2 : Nat) (w : World) (x0 : MIn w a0 A0 c0) (x1 : MIn w a1 A1 c1) (x2 : MIn w a2 A2 c2) (T1 : Tabs w) :
    Calls Tryd.prog 7 #[mtV a0.F a0.R a0.C (.slice A0 a0.l.length c0), mtV a1.F a1.R a1.C (.slice A1 a1.l.length c1), mtV a2.F a2.R a2.C (.slice A2 a2.l.length c2)] w fun e w' => e = .returned (.bool true) ∧ Below w.heap.size w w' := by
  obtain ⟨p, e, hr1⟩ : ∃ p e, mulM a0 a1 = (p, e) := ⟨_, _, rfl⟩
  obtain ⟨q, f, hr2⟩ : ∃ p e, mulM a1 a2 = (p, e) := ⟨_, _, rfl⟩
  obtain ⟨ta, ea, hr3⟩ : ∃ p e, trM a0 = (p, e) := ⟨_, _, rfl⟩
  obtain ⟨tb, eb, hr4⟩ : ∃ p e, trM a1 = (p, e) := ⟨_, _, rfl⟩
  have HR1 := hideIt hr1
  have HR2 := hideIt hr2
  have HR3 := hideIt hr3
  have HR4 := hideIt hr4
  clear hr1 hr2 hr3 hr4
  have HT := hideIt T1
  clear T1
  obtain ⟨W0, hW0⟩ : ∃ W, W = (((w.alloc (.cells #[.int .i64 a0.F, .int .i64 a0.R, .int .i64 a0.C, .slice A0 a0.l.length c0] 24)).alloc (.cells #[.int .i64 a1.F, .int .i64 a1.R, .int .i64 a1.C, .slice A1 a1.l.length c1] 24)).alloc (.cells #[.int .i64 a2.F, .int .i64 a2.R, .int .i64 a2.C, .slice A2 a2.l.length c2] 24)) := ⟨_, rfl⟩
  have HL0 : Hid (Below w.heap.size w W0) := hideIt (by rw [hW0]; exact ((((Below.refl _ w).alloc (Nat.le_refl _) _).alloc (by simp; try omega) _).alloc (by simp; try omega) _))
  have HB3 : Blk W0 w.heap.size 24 (mtC a0.F a0.R a0.C (.slice A0 a0.l.length c0)) := by
    rw [hW0]
    have h := Blk.new w 24 (mtC a0.F a0.R a0.C (.slice A0 a0.l.length c0))
    exact ((h.alloc _).alloc _)
  have HQ3W0 : Hid (BM W0 w.heap.size a0 A0 c0) := hideIt ⟨HB3, x0.keep HL0.out⟩
  have HB4 : Blk W0 (w.heap.size + 1) 24 (mtC a1.F a1.R a1.C (.slice A1 a1.l.length c1)) := by
    rw [hW0]
    have h := Blk.new (w.alloc (.cells #[.int .i64 a0.F, .int .i64 a0.R, .int .i64 a0.C, .slice A0 a0.l.length c0] 24)) 24 (mtC a1.F a1.R a1.C (.slice A1 a1.l.length c1))
    simp only [World.size_alloc] at h
    exact (h.alloc _)
  have HQ4W0 : Hid (BM W0 (w.heap.size + 1) a1 A1 c1) := hideIt ⟨HB4, x1.keep HL0.out⟩
  have HB5 : Blk W0 (w.heap.size + 1 + 1) 24 (mtC a2.F a2.R a2.C (.slice A2 a2.l.length c2)) := by
    rw [hW0]
    have h := Blk.new ((w.alloc (.cells #[.int .i64 a0.F, .int .i64 a0.R, .int .i64 a0.C, .slice A0 a0.l.length c0] 24)).alloc (.cells #[.int .i64 a1.F, .int .i64 a1.R, .int .i64 a1.C, .slice A1 a1.l.length c1] 24)) 24 (mtC a2.F a2.R a2.C (.slice A2 a2.l.length c2))
    simp only [World.size_alloc] at h
    exact h
  have HQ5W0 : Hid (BM W0 (w.heap.size + 1 + 1) a2 A2 c2) := hideIt ⟨HB5, x2.keep HL0.out⟩
  have HW0 := hideIt hW0
  clear hW0 HB3 HB4 HB5 x0 x1 x2
  go_enter Tryd.func7, Tryd.ntmps7
  go_upto_region 1 with fail
  rw [← HW0.out]
  clear HW0
  go_upto_region 1 with fail
  go_cut [7] (fun sv W => ∃ ok : Bool, sv = .bool ok ∧ Aside ((ok = true → smallM a0 = true ∧ smallM a1 = true ∧ smallM a2 = true) ∧ Below W0.heap.size W0 W))
  case first =>
    have HS0 := hideIt (Below.refl W0.heap.size W0)
    go_wp2_with (first | ((with_reducible refine at_load ?_); refine wpList_ldG (by kernel_rfl) (.tmp 3) rfl w.heap.size _ _ _ _ rfl HQ3W0.out.box ?_))
    refine (small_any a0 A0 c0 W0).mono ?_
    rintro e w1 ⟨rfl, hb⟩
    have HSX := hideIt (ls6 HS0.out hb)
    have HLw1 := hideIt (ls6 HL0.out hb)
    have HQ3w1 := hideIt (HQ3W0.out.keep hb)
    have HQ4w1 := hideIt (HQ4W0.out.keep hb)
    have HQ5w1 := hideIt (HQ5W0.out.keep hb)
    clear hb HQ3W0 HQ4W0 HQ5W0  HL0
    cases h0 : smallM a0
    · go_wp2_with fail
      go_meet
      exact ⟨_, rfl, ⟨(fun h => Bool.noConfusion h), HSX.out⟩⟩
    · go_wp2_with (first | ((with_reducible refine at_load ?_); refine wpList_ldG (by kernel_rfl) (.tmp 4) rfl (w.heap.size + 1) _ _ _ _ rfl HQ4w1.out.box ?_))
      refine (small_any a1 A1 c1 w1).mono ?_
      rintro e w2 ⟨rfl, hb⟩
      have HSX := hideIt (ls6 HSX.out hb)
      have HLw2 := hideIt (ls6 HLw1.out hb)
      have HQ3w2 := hideIt (HQ3w1.out.keep hb)
      have HQ4w2 := hideIt (HQ4w1.out.keep hb)
      have HQ5w2 := hideIt (HQ5w1.out.keep hb)
      clear hb HQ3w1 HQ4w1 HQ5w1  HLw1
      cases h1 : smallM a1
      · go_wp2_with fail
        go_meet
        exact ⟨_, rfl, ⟨(fun h => Bool.noConfusion h), HSX.out⟩⟩
      · go_wp2_with (first | ((with_reducible refine at_load ?_); refine wpList_ldG (by kernel_rfl) (.tmp 5) rfl (w.heap.size + 1 + 1) _ _ _ _ rfl HQ5w2.out.box ?_))
        refine (small_any a2 A2 c2 w2).mono ?_
        rintro e w3 ⟨rfl, hb⟩
        have HSX := hideIt (ls6 HSX.out hb)
        have HLw3 := hideIt (ls6 HLw2.out hb)
        have HQ3w3 := hideIt (HQ3w2.out.keep hb)
        have HQ4w3 := hideIt (HQ4w2.out.keep hb)
        have HQ5w3 := hideIt (HQ5w2.out.keep hb)
        clear hb HQ3w2 HQ4w2 HQ5w2  HLw2
        cases h2 : smallM a2
        · go_wp2_with fail
          go_meet
          exact ⟨_, rfl, ⟨(fun h => Bool.noConfusion h), HSX.out⟩⟩
        · go_wp2_with fail
          go_meet
          exact ⟨_, rfl, ⟨(fun _ => ⟨h0, h1, h2⟩), HSX.out⟩⟩
  obtain ⟨ok, rfl, HOK⟩ := hcut
  have HFIT := hideIt HOK.out.1
  have hb := HOK.out.2
  clear HOK
  have HLwc := hideIt (ls6 HL0.out hb)
  have HQ3wc := hideIt (HQ3W0.out.keep hb)
  have HQ4wc := hideIt (HQ4W0.out.keep hb)
  have HQ5wc := hideIt (HQ5W0.out.keep hb)
  clear hb HQ3W0 HQ4W0 HQ5W0  HL0
  go_upto_region 2 with fail
  go_wp2_with (first | ((with_reducible refine at_load ?_); refine wpList_ldG (by kernel_rfl) (.tmp 3) rfl w.heap.size _ _ _ _ rfl HQ3wc.out.box ?_) | ((with_reducible refine at_load ?_); refine wpList_ldG (by kernel_rfl) (.tmp 4) rfl (w.heap.size + 1) _ _ _ _ rfl HQ4wc.out.box ?_))
  refine (mul6_any a0 a1 _ _ _ _ wc (HT.out.keep HLwc.out) HQ3wc.out.mat HQ4wc.out.mat).mono ?_
  rintro e w4 hres
  rw [HR1.out] at hres
  obtain ⟨D4, c4, rfl, hin, hb⟩ := hres.min2
  have HM4 := hideIt hin
  clear hin hres
  have HLw4 := hideIt (ls6 HLwc.out hb)
  have HQ3w4 := hideIt (HQ3wc.out.keep hb)
  have HQ4w4 := hideIt (HQ4wc.out.keep hb)
  have HQ5w4 := hideIt (HQ5wc.out.keep hb)
  clear hb HQ3wc HQ4wc HQ5wc  HLwc
  go_upto_region 3 with fail
  have HS := hideIt (below_new w4 (.cells #[.int .i64 p.F, .int .i64 p.R, .int .i64 p.C, .slice D4 p.l.length c4] 24))
  have HB : Hid (BM (w4.alloc (.cells #[.int .i64 p.F, .int .i64 p.R, .int .i64 p.C, .slice D4 p.l.length c4] 24)) w4.heap.size p D4 c4) := hideIt ⟨Blk.new w4 _ _, HM4.out.keep (below_new _ _)⟩
  obtain ⟨w5, hV⟩ : ∃ V, V = w4.alloc (.cells #[.int .i64 p.F, .int .i64 p.R, .int .i64 p.C, .slice D4 p.l.length c4] 24) := ⟨_, rfl⟩
  rw [← hV] at HS HB ⊢
  obtain ⟨p8, hp⟩ : ∃ p, p = w4.heap.size := ⟨_, rfl⟩
  rw [← hp] at HB ⊢
  have HQ8w5 := HB
  clear hV hp HB HM4
  have hb := HS.out
  clear HS
  have HLw5 := hideIt (ls6 HLw4.out hb)
  have HQ3w5 := hideIt (HQ3w4.out.keep hb)
  have HQ4w5 := hideIt (HQ4w4.out.keep hb)
  have HQ5w5 := hideIt (HQ5w4.out.keep hb)
  clear hb HQ3w4 HQ4w4 HQ5w4  HLw4
  go_wp2_with (first | ((with_reducible refine at_load ?_); refine wpList_ldG (by kernel_rfl) (.tmp 4) rfl (w.heap.size + 1) _ _ _ _ rfl HQ4w5.out.box ?_) | ((with_reducible refine at_load ?_); refine wpList_ldG (by kernel_rfl) (.tmp 5) rfl (w.heap.size + 1 + 1) _ _ _ _ rfl HQ5w5.out.box ?_))
  refine (mul6_any a1 a2 _ _ _ _ w5 (HT.out.keep HLw5.out) HQ4w5.out.mat HQ5w5.out.mat).mono ?_
  rintro e w6 hres
  rw [HR2.out] at hres
  obtain ⟨D6, c6, rfl, hin, hb⟩ := hres.min2
  have HM6 := hideIt hin
  clear hin hres
  have HLw6 := hideIt (ls6 HLw5.out hb)
  have HQ3w6 := hideIt (HQ3w5.out.keep hb)
  have HQ4w6 := hideIt (HQ4w5.out.keep hb)
  have HQ5w6 := hideIt (HQ5w5.out.keep hb)
  have HQ8w6 := hideIt (HQ8w5.out.keep hb)
  clear hb HQ3w5 HQ4w5 HQ5w5 HQ8w5  HLw5
  go_upto_region 4 with fail
  have HS := hideIt (below_new w6 (.cells #[.int .i64 q.F, .int .i64 q.R, .int .i64 q.C, .slice D6 q.l.length c6] 24))
  have HB : Hid (BM (w6.alloc (.cells #[.int .i64 q.F, .int .i64 q.R, .int .i64 q.C, .slice D6 q.l.length c6] 24)) w6.heap.size q D6 c6) := hideIt ⟨Blk.new w6 _ _, HM6.out.keep (below_new _ _)⟩
  obtain ⟨w7, hV⟩ : ∃ V, V = w6.alloc (.cells #[.int .i64 q.F, .int .i64 q.R, .int .i64 q.C, .slice D6 q.l.length c6] 24) := ⟨_, rfl⟩
  rw [← hV] at HS HB ⊢
  obtain ⟨p10, hp⟩ : ∃ p, p = w6.heap.size := ⟨_, rfl⟩
  rw [← hp] at HB ⊢
  have HQ10w7 := HB
  clear hV hp HB HM6
  have hb := HS.out
  clear HS
  have HLw7 := hideIt (ls6 HLw6.out hb)
  have HQ3w7 := hideIt (HQ3w6.out.keep hb)
  have HQ4w7 := hideIt (HQ4w6.out.keep hb)
  have HQ5w7 := hideIt (HQ5w6.out.keep hb)
  have HQ8w7 := hideIt (HQ8w6.out.keep hb)
  clear hb HQ3w6 HQ4w6 HQ5w6 HQ8w6  HLw6
  cases ok
  · go_wp2_with fail
    refine (sanity_any w7 (HT.out.keep HLw7.out)).mono ?_
    rintro e w8 ⟨rfl, hb⟩
    have HLw8 := hideIt (ls6 HLw7.out hb)
    have HQ3w8 := hideIt (HQ3w7.out.keep hb)
    have HQ4w8 := hideIt (HQ4w7.out.keep hb)
    have HQ5w8 := hideIt (HQ5w7.out.keep hb)
    have HQ8w8 := hideIt (HQ8w7.out.keep hb)
    have HQ10w8 := hideIt (HQ10w7.out.keep hb)
    clear hb HQ3w7 HQ4w7 HQ5w7 HQ8w7 HQ10w7  HLw7
    go_wp2_with fail
    go_ret
    exact ⟨rfl, HLw8.out⟩
  · by_cases he : e = 0
    · by_cases hf : f = 0
      subst he
      · subst hf
        obtain ⟨l, hx1, hx2⟩ := mul_assoc6 HR1.out HR2.out
        obtain ⟨t, hx3, hx4⟩ := mul_tr6 HR1.out
        rw [HR3.out, HR4.out] at hx4
        have HX1 := hideIt hx1
        have HX2 := hideIt hx2
        have HX3 := hideIt hx3
        have HX4 := hideIt (show mulM tb ta = (t, 0) from hx4)
        have HLL := hideIt (show l.l.length ≤ 1024 by have h := mulM_len p a2; rw [hx1] at h; exact h)
        have HLT := hideIt (show t.l.length ≤ 1024 by have h := trM_len p; rw [hx3] at h; exact h)
        clear hx1 hx2 hx3 hx4
        go_upto_region 6 with fail
        go_wp2_with (first | ((with_reducible refine at_load ?_); refine wpList_ldG (by kernel_rfl) (.tmp 8) rfl p8 _ _ _ _ rfl HQ8w7.out.box ?_) | ((with_reducible refine at_load ?_); refine wpList_ldG (by kernel_rfl) (.tmp 5) rfl (w.heap.size + 1 + 1) _ _ _ _ rfl HQ5w7.out.box ?_))
        refine (mul6_any p a2 _ _ _ _ w7 (HT.out.keep HLw7.out) HQ8w7.out.mat HQ5w7.out.mat).mono ?_
        rintro e w8 hres
        rw [HX1.out] at hres
        obtain ⟨D8, c8, rfl, hin, hb⟩ := hres.min2
        have HM8 := hideIt hin
        clear hin hres
        have HLw8 := hideIt (ls6 HLw7.out hb)
        have HQ3w8 := hideIt (HQ3w7.out.keep hb)
        have HQ4w8 := hideIt (HQ4w7.out.keep hb)
        have HQ5w8 := hideIt (HQ5w7.out.keep hb)
        have HQ8w8 := hideIt (HQ8w7.out.keep hb)
        have HQ10w8 := hideIt (HQ10w7.out.keep hb)
        clear hb HQ3w7 HQ4w7 HQ5w7 HQ8w7 HQ10w7  HLw7
        go_upto_region 7 with fail
        have HS := hideIt (below_new w8 (.cells #[.int .i64 l.F, .int .i64 l.R, .int .i64 l.C, .slice D8 l.l.length c8] 24))
        have HB : Hid (BM (w8.alloc (.cells #[.int .i64 l.F, .int .i64 l.R, .int .i64 l.C, .slice D8 l.l.length c8] 24)) w8.heap.size l D8 c8) := hideIt ⟨Blk.new w8 _ _, HM8.out.keep (below_new _ _)⟩
        obtain ⟨w9, hV⟩ : ∃ V, V = w8.alloc (.cells #[.int .i64 l.F, .int .i64 l.R, .int .i64 l.C, .slice D8 l.l.length c8] 24) := ⟨_, rfl⟩
        rw [← hV] at HS HB ⊢
        obtain ⟨p12, hp⟩ : ∃ p, p = w8.heap.size := ⟨_, rfl⟩
        rw [← hp] at HB ⊢
        have HQ12w9 := HB
        clear hV hp HB HM8
        have hb := HS.out
        clear HS
        have HLw9 := hideIt (ls6 HLw8.out hb)
        have HQ3w9 := hideIt (HQ3w8.out.keep hb)
        have HQ4w9 := hideIt (HQ4w8.out.keep hb)
        have HQ5w9 := hideIt (HQ5w8.out.keep hb)
        have HQ8w9 := hideIt (HQ8w8.out.keep hb)
        have HQ10w9 := hideIt (HQ10w8.out.keep hb)
        clear hb HQ3w8 HQ4w8 HQ5w8 HQ8w8 HQ10w8  HLw8
        go_wp2_with (first | ((with_reducible refine at_load ?_); refine wpList_ldG (by kernel_rfl) (.tmp 3) rfl w.heap.size _ _ _ _ rfl HQ3w9.out.box ?_) | ((with_reducible refine at_load ?_); refine wpList_ldG (by kernel_rfl) (.tmp 10) rfl p10 _ _ _ _ rfl HQ10w9.out.box ?_))
        refine (mul6_any a0 q _ _ _ _ w9 (HT.out.keep HLw9.out) HQ3w9.out.mat HQ10w9.out.mat).mono ?_
        rintro e w10 hres
        rw [HX2.out] at hres
        obtain ⟨D10, c10, rfl, hin, hb⟩ := hres.min2
        have HM10 := hideIt hin
        clear hin hres
        have HLw10 := hideIt (ls6 HLw9.out hb)
        have HQ3w10 := hideIt (HQ3w9.out.keep hb)
        have HQ4w10 := hideIt (HQ4w9.out.keep hb)
        have HQ5w10 := hideIt (HQ5w9.out.keep hb)
        have HQ8w10 := hideIt (HQ8w9.out.keep hb)
        have HQ10w10 := hideIt (HQ10w9.out.keep hb)
        have HQ12w10 := hideIt (HQ12w9.out.keep hb)
        clear hb HQ3w9 HQ4w9 HQ5w9 HQ8w9 HQ10w9 HQ12w9  HLw9
        go_upto_region 8 with fail
        have HS := hideIt (below_new w10 (.cells #[.int .i64 l.F, .int .i64 l.R, .int .i64 l.C, .slice D10 l.l.length c10] 24))
        have HB : Hid (BM (w10.alloc (.cells #[.int .i64 l.F, .int .i64 l.R, .int .i64 l.C, .slice D10 l.l.length c10] 24)) w10.heap.size l D10 c10) := hideIt ⟨Blk.new w10 _ _, HM10.out.keep (below_new _ _)⟩
        obtain ⟨w11, hV⟩ : ∃ V, V = w10.alloc (.cells #[.int .i64 l.F, .int .i64 l.R, .int .i64 l.C, .slice D10 l.l.length c10] 24) := ⟨_, rfl⟩
        rw [← hV] at HS HB ⊢
        obtain ⟨p14, hp⟩ : ∃ p, p = w10.heap.size := ⟨_, rfl⟩
        rw [← hp] at HB ⊢
        have HQ14w11 := HB
        clear hV hp HB HM10
        have hb := HS.out
        clear HS
        have HLw11 := hideIt (ls6 HLw10.out hb)
        have HQ3w11 := hideIt (HQ3w10.out.keep hb)
        have HQ4w11 := hideIt (HQ4w10.out.keep hb)
        have HQ5w11 := hideIt (HQ5w10.out.keep hb)
        have HQ8w11 := hideIt (HQ8w10.out.keep hb)
        have HQ10w11 := hideIt (HQ10w10.out.keep hb)
        have HQ12w11 := hideIt (HQ12w10.out.keep hb)
        clear hb HQ3w10 HQ4w10 HQ5w10 HQ8w10 HQ10w10 HQ12w10  HLw10
        go_wp2_with (first | ((with_reducible refine at_load ?_); refine wpList_ldG (by kernel_rfl) (.tmp 8) rfl p8 _ _ _ _ rfl HQ8w11.out.box ?_))
        refine (transp_any p _ _ w11 (HT.out.keep HLw11.out) HQ8w11.out.mat).mono ?_
        rintro e w12 hres
        rw [HX3.out] at hres
        obtain ⟨D12, c12, rfl, hin, hb⟩ := hres.min2
        have HM12 := hideIt hin
        clear hin hres
        have HLw12 := hideIt (ls6 HLw11.out hb)
        have HQ3w12 := hideIt (HQ3w11.out.keep hb)
        have HQ4w12 := hideIt (HQ4w11.out.keep hb)
        have HQ5w12 := hideIt (HQ5w11.out.keep hb)
        have HQ8w12 := hideIt (HQ8w11.out.keep hb)
        have HQ10w12 := hideIt (HQ10w11.out.keep hb)
        have HQ12w12 := hideIt (HQ12w11.out.keep hb)
        have HQ14w12 := hideIt (HQ14w11.out.keep hb)
        clear hb HQ3w11 HQ4w11 HQ5w11 HQ8w11 HQ10w11 HQ12w11 HQ14w11  HLw11
        go_upto_region 9 with fail
        have HS := hideIt (below_new w12 (.cells #[.int .i64 t.F, .int .i64 t.R, .int .i64 t.C, .slice D12 t.l.length c12] 24))
        have HB : Hid (BM (w12.alloc (.cells #[.int .i64 t.F, .int .i64 t.R, .int .i64 t.C, .slice D12 t.l.length c12] 24)) w12.heap.size t D12 c12) := hideIt ⟨Blk.new w12 _ _, HM12.out.keep (below_new _ _)⟩
        obtain ⟨w13, hV⟩ : ∃ V, V = w12.alloc (.cells #[.int .i64 t.F, .int .i64 t.R, .int .i64 t.C, .slice D12 t.l.length c12] 24) := ⟨_, rfl⟩
        rw [← hV] at HS HB ⊢
        obtain ⟨p16, hp⟩ : ∃ p, p = w12.heap.size := ⟨_, rfl⟩
        rw [← hp] at HB ⊢
        have HQ16w13 := HB
        clear hV hp HB HM12
        have hb := HS.out
        clear HS
        have HLw13 := hideIt (ls6 HLw12.out hb)
        have HQ3w13 := hideIt (HQ3w12.out.keep hb)
        have HQ4w13 := hideIt (HQ4w12.out.keep hb)
        have HQ5w13 := hideIt (HQ5w12.out.keep hb)
        have HQ8w13 := hideIt (HQ8w12.out.keep hb)
        have HQ10w13 := hideIt (HQ10w12.out.keep hb)
        have HQ12w13 := hideIt (HQ12w12.out.keep hb)
        have HQ14w13 := hideIt (HQ14w12.out.keep hb)
        clear hb HQ3w12 HQ4w12 HQ5w12 HQ8w12 HQ10w12 HQ12w12 HQ14w12  HLw12
        go_wp2_with (first | ((with_reducible refine at_load ?_); refine wpList_ldG (by kernel_rfl) (.tmp 3) rfl w.heap.size _ _ _ _ rfl HQ3w13.out.box ?_))
        refine (transp_any a0 _ _ w13 (HT.out.keep HLw13.out) HQ3w13.out.mat).mono ?_
        rintro e w14 hres
        rw [HR3.out] at hres
        obtain ⟨D14, c14, rfl, hin, hb⟩ := hres.min2
        have HM14 := hideIt hin
        clear hin hres
        have HLw14 := hideIt (ls6 HLw13.out hb)
        have HQ3w14 := hideIt (HQ3w13.out.keep hb)
        have HQ4w14 := hideIt (HQ4w13.out.keep hb)
        have HQ5w14 := hideIt (HQ5w13.out.keep hb)
        have HQ8w14 := hideIt (HQ8w13.out.keep hb)
        have HQ10w14 := hideIt (HQ10w13.out.keep hb)
        have HQ12w14 := hideIt (HQ12w13.out.keep hb)
        have HQ14w14 := hideIt (HQ14w13.out.keep hb)
        have HQ16w14 := hideIt (HQ16w13.out.keep hb)
        clear hb HQ3w13 HQ4w13 HQ5w13 HQ8w13 HQ10w13 HQ12w13 HQ14w13 HQ16w13  HLw13
        go_upto_region 10 with fail
        have HS := hideIt (below_new w14 (.cells #[.int .i64 ta.F, .int .i64 ta.R, .int .i64 ta.C, .slice D14 ta.l.length c14] 24))
        have HB : Hid (BM (w14.alloc (.cells #[.int .i64 ta.F, .int .i64 ta.R, .int .i64 ta.C, .slice D14 ta.l.length c14] 24)) w14.heap.size ta D14 c14) := hideIt ⟨Blk.new w14 _ _, HM14.out.keep (below_new _ _)⟩
        obtain ⟨w15, hV⟩ : ∃ V, V = w14.alloc (.cells #[.int .i64 ta.F, .int .i64 ta.R, .int .i64 ta.C, .slice D14 ta.l.length c14] 24) := ⟨_, rfl⟩
        rw [← hV] at HS HB ⊢
        obtain ⟨p18, hp⟩ : ∃ p, p = w14.heap.size := ⟨_, rfl⟩
        rw [← hp] at HB ⊢
        have HQ18w15 := HB
        clear hV hp HB HM14
        have hb := HS.out
        clear HS
        have HLw15 := hideIt (ls6 HLw14.out hb)
        have HQ3w15 := hideIt (HQ3w14.out.keep hb)
        have HQ4w15 := hideIt (HQ4w14.out.keep hb)
        have HQ5w15 := hideIt (HQ5w14.out.keep hb)
        have HQ8w15 := hideIt (HQ8w14.out.keep hb)
        have HQ10w15 := hideIt (HQ10w14.out.keep hb)
        have HQ12w15 := hideIt (HQ12w14.out.keep hb)
        have HQ14w15 := hideIt (HQ14w14.out.keep hb)
        have HQ16w15 := hideIt (HQ16w14.out.keep hb)
        clear hb HQ3w14 HQ4w14 HQ5w14 HQ8w14 HQ10w14 HQ12w14 HQ14w14 HQ16w14  HLw14
        go_wp2_with (first | ((with_reducible refine at_load ?_); refine wpList_ldG (by kernel_rfl) (.tmp 4) rfl (w.heap.size + 1) _ _ _ _ rfl HQ4w15.out.box ?_))
        refine (transp_any a1 _ _ w15 (HT.out.keep HLw15.out) HQ4w15.out.mat).mono ?_
        rintro e w16 hres
        rw [HR4.out] at hres
        obtain ⟨D16, c16, rfl, hin, hb⟩ := hres.min2
        have HM16 := hideIt hin
        clear hin hres
        have HLw16 := hideIt (ls6 HLw15.out hb)
        have HQ3w16 := hideIt (HQ3w15.out.keep hb)
        have HQ4w16 := hideIt (HQ4w15.out.keep hb)
        have HQ5w16 := hideIt (HQ5w15.out.keep hb)
        have HQ8w16 := hideIt (HQ8w15.out.keep hb)
        have HQ10w16 := hideIt (HQ10w15.out.keep hb)
        have HQ12w16 := hideIt (HQ12w15.out.keep hb)
        have HQ14w16 := hideIt (HQ14w15.out.keep hb)
        have HQ16w16 := hideIt (HQ16w15.out.keep hb)
        have HQ18w16 := hideIt (HQ18w15.out.keep hb)
        clear hb HQ3w15 HQ4w15 HQ5w15 HQ8w15 HQ10w15 HQ12w15 HQ14w15 HQ16w15 HQ18w15  HLw15
        go_upto_region 11 with fail
        have HS := hideIt (below_new w16 (.cells #[.int .i64 tb.F, .int .i64 tb.R, .int .i64 tb.C, .slice D16 tb.l.length c16] 24))
        have HB : Hid (BM (w16.alloc (.cells #[.int .i64 tb.F, .int .i64 tb.R, .int .i64 tb.C, .slice D16 tb.l.length c16] 24)) w16.heap.size tb D16 c16) := hideIt ⟨Blk.new w16 _ _, HM16.out.keep (below_new _ _)⟩
        obtain ⟨w17, hV⟩ : ∃ V, V = w16.alloc (.cells #[.int .i64 tb.F, .int .i64 tb.R, .int .i64 tb.C, .slice D16 tb.l.length c16] 24) := ⟨_, rfl⟩
        rw [← hV] at HS HB ⊢
        obtain ⟨p20, hp⟩ : ∃ p, p = w16.heap.size := ⟨_, rfl⟩
        rw [← hp] at HB ⊢
        have HQ20w17 := HB
        clear hV hp HB HM16
        have hb := HS.out
        clear HS
        have HLw17 := hideIt (ls6 HLw16.out hb)
        have HQ3w17 := hideIt (HQ3w16.out.keep hb)
        have HQ4w17 := hideIt (HQ4w16.out.keep hb)
        have HQ5w17 := hideIt (HQ5w16.out.keep hb)
        have HQ8w17 := hideIt (HQ8w16.out.keep hb)
        have HQ10w17 := hideIt (HQ10w16.out.keep hb)
        have HQ12w17 := hideIt (HQ12w16.out.keep hb)
        have HQ14w17 := hideIt (HQ14w16.out.keep hb)
        have HQ16w17 := hideIt (HQ16w16.out.keep hb)
        have HQ18w17 := hideIt (HQ18w16.out.keep hb)
        clear hb HQ3w16 HQ4w16 HQ5w16 HQ8w16 HQ10w16 HQ12w16 HQ14w16 HQ16w16 HQ18w16  HLw16
        go_wp2_with (first | ((with_reducible refine at_load ?_); refine wpList_ldG (by kernel_rfl) (.tmp 20) rfl p20 _ _ _ _ rfl HQ20w17.out.box ?_) | ((with_reducible refine at_load ?_); refine wpList_ldG (by kernel_rfl) (.tmp 18) rfl p18 _ _ _ _ rfl HQ18w17.out.box ?_))
        refine (mul6_any tb ta _ _ _ _ w17 (HT.out.keep HLw17.out) HQ20w17.out.mat HQ18w17.out.mat).mono ?_
        rintro e w18 hres
        rw [HX4.out] at hres
        obtain ⟨D18, c18, rfl, hin, hb⟩ := hres.min2
        have HM18 := hideIt hin
        clear hin hres
        have HLw18 := hideIt (ls6 HLw17.out hb)
        have HQ3w18 := hideIt (HQ3w17.out.keep hb)
        have HQ4w18 := hideIt (HQ4w17.out.keep hb)
        have HQ5w18 := hideIt (HQ5w17.out.keep hb)
        have HQ8w18 := hideIt (HQ8w17.out.keep hb)
        have HQ10w18 := hideIt (HQ10w17.out.keep hb)
        have HQ12w18 := hideIt (HQ12w17.out.keep hb)
        have HQ14w18 := hideIt (HQ14w17.out.keep hb)
        have HQ16w18 := hideIt (HQ16w17.out.keep hb)
        have HQ18w18 := hideIt (HQ18w17.out.keep hb)
        have HQ20w18 := hideIt (HQ20w17.out.keep hb)
        clear hb HQ3w17 HQ4w17 HQ5w17 HQ8w17 HQ10w17 HQ12w17 HQ14w17 HQ16w17 HQ18w17 HQ20w17  HLw17
        go_upto_region 12 with fail
        have HS := hideIt (below_new w18 (.cells #[.int .i64 t.F, .int .i64 t.R, .int .i64 t.C, .slice D18 t.l.length c18] 24))
        have HB : Hid (BM (w18.alloc (.cells #[.int .i64 t.F, .int .i64 t.R, .int .i64 t.C, .slice D18 t.l.length c18] 24)) w18.heap.size t D18 c18) := hideIt ⟨Blk.new w18 _ _, HM18.out.keep (below_new _ _)⟩
        obtain ⟨w19, hV⟩ : ∃ V, V = w18.alloc (.cells #[.int .i64 t.F, .int .i64 t.R, .int .i64 t.C, .slice D18 t.l.length c18] 24) := ⟨_, rfl⟩
        rw [← hV] at HS HB ⊢
        obtain ⟨p22, hp⟩ : ∃ p, p = w18.heap.size := ⟨_, rfl⟩
        rw [← hp] at HB ⊢
        have HQ22w19 := HB
        clear hV hp HB HM18
        have hb := HS.out
        clear HS
        have HLw19 := hideIt (ls6 HLw18.out hb)
        have HQ3w19 := hideIt (HQ3w18.out.keep hb)
        have HQ4w19 := hideIt (HQ4w18.out.keep hb)
        have HQ5w19 := hideIt (HQ5w18.out.keep hb)
        have HQ8w19 := hideIt (HQ8w18.out.keep hb)
        have HQ10w19 := hideIt (HQ10w18.out.keep hb)
        have HQ12w19 := hideIt (HQ12w18.out.keep hb)
        have HQ14w19 := hideIt (HQ14w18.out.keep hb)
        have HQ16w19 := hideIt (HQ16w18.out.keep hb)
        have HQ18w19 := hideIt (HQ18w18.out.keep hb)
        have HQ20w19 := hideIt (HQ20w18.out.keep hb)
        clear hb HQ3w18 HQ4w18 HQ5w18 HQ8w18 HQ10w18 HQ12w18 HQ14w18 HQ16w18 HQ18w18 HQ20w18  HLw18
        go_wp2_with fail
        refine (sanity_any w19 (HT.out.keep HLw19.out)).mono ?_
        rintro e w20 ⟨rfl, hb⟩
        have HLw20 := hideIt (ls6 HLw19.out hb)
        have HQ3w20 := hideIt (HQ3w19.out.keep hb)
        have HQ4w20 := hideIt (HQ4w19.out.keep hb)
        have HQ5w20 := hideIt (HQ5w19.out.keep hb)
        have HQ8w20 := hideIt (HQ8w19.out.keep hb)
        have HQ10w20 := hideIt (HQ10w19.out.keep hb)
        have HQ12w20 := hideIt (HQ12w19.out.keep hb)
        have HQ14w20 := hideIt (HQ14w19.out.keep hb)
        have HQ16w20 := hideIt (HQ16w19.out.keep hb)
        have HQ18w20 := hideIt (HQ18w19.out.keep hb)
        have HQ20w20 := hideIt (HQ20w19.out.keep hb)
        have HQ22w20 := hideIt (HQ22w19.out.keep hb)
        clear hb HQ3w19 HQ4w19 HQ5w19 HQ8w19 HQ10w19 HQ12w19 HQ14w19 HQ16w19 HQ18w19 HQ20w19 HQ22w19  HLw19
        go_wp2_with (first | ((with_reducible refine at_load ?_); refine wpList_ldG (by kernel_rfl) (.tmp 12) rfl p12 _ _ _ _ rfl HQ12w20.out.box ?_) | ((with_reducible refine at_load ?_); refine wpList_ldG (by kernel_rfl) (.tmp 14) rfl p14 _ _ _ _ rfl HQ14w20.out.box ?_))
        refine (rsame_any l l D8 D10 c8 c10 w20 HQ12w20.out.mat HQ14w20.out.mat (Nat.le_trans HLL.out (by decide))).mono ?_
        rintro e w21 ⟨rfl, hb⟩
        rw [sameM_self]
        have HLw21 := hideIt (ls6 HLw20.out hb)
        have HQ3w21 := hideIt (HQ3w20.out.keep hb)
        have HQ4w21 := hideIt (HQ4w20.out.keep hb)
        have HQ5w21 := hideIt (HQ5w20.out.keep hb)
        have HQ8w21 := hideIt (HQ8w20.out.keep hb)
        have HQ10w21 := hideIt (HQ10w20.out.keep hb)
        have HQ12w21 := hideIt (HQ12w20.out.keep hb)
        have HQ14w21 := hideIt (HQ14w20.out.keep hb)
        have HQ16w21 := hideIt (HQ16w20.out.keep hb)
        have HQ18w21 := hideIt (HQ18w20.out.keep hb)
        have HQ20w21 := hideIt (HQ20w20.out.keep hb)
        have HQ22w21 := hideIt (HQ22w20.out.keep hb)
        clear hb HQ3w20 HQ4w20 HQ5w20 HQ8w20 HQ10w20 HQ12w20 HQ14w20 HQ16w20 HQ18w20 HQ20w20 HQ22w20  HLw20
        go_wp2_with (first | ((with_reducible refine at_load ?_); refine wpList_ldG (by kernel_rfl) (.tmp 16) rfl p16 _ _ _ _ rfl HQ16w21.out.box ?_) | ((with_reducible refine at_load ?_); refine wpList_ldG (by kernel_rfl) (.tmp 22) rfl p22 _ _ _ _ rfl HQ22w21.out.box ?_))
        refine (rsame_any t t D12 D18 c12 c18 w21 HQ16w21.out.mat HQ22w21.out.mat (Nat.le_trans HLT.out (by decide))).mono ?_
        rintro e w22 ⟨rfl, hb⟩
        rw [sameM_self]
        have HLw22 := hideIt (ls6 HLw21.out hb)
        have HQ3w22 := hideIt (HQ3w21.out.keep hb)
        have HQ4w22 := hideIt (HQ4w21.out.keep hb)
        have HQ5w22 := hideIt (HQ5w21.out.keep hb)
        have HQ8w22 := hideIt (HQ8w21.out.keep hb)
        have HQ10w22 := hideIt (HQ10w21.out.keep hb)
        have HQ12w22 := hideIt (HQ12w21.out.keep hb)
        have HQ14w22 := hideIt (HQ14w21.out.keep hb)
        have HQ16w22 := hideIt (HQ16w21.out.keep hb)
        have HQ18w22 := hideIt (HQ18w21.out.keep hb)
        have HQ20w22 := hideIt (HQ20w21.out.keep hb)
        have HQ22w22 := hideIt (HQ22w21.out.keep hb)
        clear hb HQ3w21 HQ4w21 HQ5w21 HQ8w21 HQ10w21 HQ12w21 HQ14w21 HQ16w21 HQ18w21 HQ20w21 HQ22w21  HLw21
        go_wp2_with fail
        go_ret
        exact ⟨rfl, HLw22.out⟩
      · have hq2 := int_neqT6 27 hf
        clear hf
        go_wp2_with fail
        refine (sanity_any w7 (HT.out.keep HLw7.out)).mono ?_
        rintro e w8 ⟨rfl, hb⟩
        have HLw8 := hideIt (ls6 HLw7.out hb)
        have HQ3w8 := hideIt (HQ3w7.out.keep hb)
        have HQ4w8 := hideIt (HQ4w7.out.keep hb)
        have HQ5w8 := hideIt (HQ5w7.out.keep hb)
        have HQ8w8 := hideIt (HQ8w7.out.keep hb)
        have HQ10w8 := hideIt (HQ10w7.out.keep hb)
        clear hb HQ3w7 HQ4w7 HQ5w7 HQ8w7 HQ10w7  HLw7
        go_wp2_with fail
        go_ret
        exact ⟨rfl, HLw8.out⟩
    · have hq1 := int_neqT6 27 he
      clear he
      go_wp2_with fail
      refine (sanity_any w7 (HT.out.keep HLw7.out)).mono ?_
      rintro e w8 ⟨rfl, hb⟩
      have HLw8 := hideIt (ls6 HLw7.out hb)
      have HQ3w8 := hideIt (HQ3w7.out.keep hb)
      have HQ4w8 := hideIt (HQ4w7.out.keep hb)
      have HQ5w8 := hideIt (HQ5w7.out.keep hb)
      have HQ8w8 := hideIt (HQ8w7.out.keep hb)
      have HQ10w8 := hideIt (HQ10w7.out.keep hb)
      clear hb HQ3w7 HQ4w7 HQ5w7 HQ8w7 HQ10w7  HLw7
      go_wp2_with fail
      go_ret
      exact ⟨rfl, HLw8.out⟩

end Go.Proofs.YtodmcojcmihooaaDoor.matrixAssociates
