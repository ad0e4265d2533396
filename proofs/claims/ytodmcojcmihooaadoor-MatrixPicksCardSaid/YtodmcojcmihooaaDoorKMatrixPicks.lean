/-
  The walk of the law: Picking rows of a product is the same as multiplying the picked rows.
-/
import Derived.Test.YtodmcojcmihooaaDoorMatJ
import Derived.Test.YtodmcojcmihooaaDoorMatSan
import Derived.Test.YtodmcojcmihooaaDoorArgM
namespace Go.Proofs.YtodmcojcmihooaaDoor.matrixPicks
open Go.RowKit
set_option linter.unusedVariables false

set_option maxHeartbeats 4000000 in
set_option maxRecDepth 100000 in
theorem walk (a0 : Mt) (A0 : Option Addr) (c0 : Nat) (a1 : Mt) (A1 : Option Addr) (c1 : Nat) (B2 : Option Addr) (cb2 : Nat) (rows : List Int) (w : World) (x0 : MIn w a0 A0 c0) (x1 : MIn w a1 A1 c1) (xr : Sl w w.heap.size B2 1 rows.length (rows.map iv)) (mr : rows.length ≤ cb2) (kr : cb2 ≤ maxLen) (T1 : Tabs w) :
    Calls Tryd.prog 9 #[mtV a0.F a0.R a0.C (.slice A0 a0.l.length c0), mtV a1.F a1.R a1.C (.slice A1 a1.l.length c1), .slice B2 rows.length cb2] w fun e w' => e = .returned (.bool true) ∧ Below w.heap.size w w' := by
  obtain ⟨p, e, hr1⟩ : ∃ p e, mulM a0 a1 = (p, e) := ⟨_, _, rfl⟩
  obtain ⟨q, f, hr2⟩ : ∃ p e, pickM a0 rows = (p, e) := ⟨_, _, rfl⟩
  have HR1 := hideIt hr1
  have HR2 := hideIt hr2
  have HXR := hideIt (fun W (h : Below w.heap.size w W) => (xr.below h).wide h.size)
  clear hr1 hr2 xr
  have HT := hideIt T1
  clear T1
  obtain ⟨W0, hW0⟩ : ∃ W, W = ((w.alloc (.cells #[.int .i64 a0.F, .int .i64 a0.R, .int .i64 a0.C, .slice A0 a0.l.length c0] 24)).alloc (.cells #[.int .i64 a1.F, .int .i64 a1.R, .int .i64 a1.C, .slice A1 a1.l.length c1] 24)) := ⟨_, rfl⟩
  have HL0 : Hid (Below w.heap.size w W0) := hideIt (by rw [hW0]; exact (((Below.refl _ w).alloc (Nat.le_refl _) _).alloc (by simp; try omega) _))
  have HB3 : Blk W0 w.heap.size 24 (mtC a0.F a0.R a0.C (.slice A0 a0.l.length c0)) := by
    rw [hW0]
    have h := Blk.new w 24 (mtC a0.F a0.R a0.C (.slice A0 a0.l.length c0))
    exact (h.alloc _)
  have HQ3W0 : Hid (BM W0 w.heap.size a0 A0 c0) := hideIt ⟨HB3, x0.keep HL0.out⟩
  have HB4 : Blk W0 (w.heap.size + 1) 24 (mtC a1.F a1.R a1.C (.slice A1 a1.l.length c1)) := by
    rw [hW0]
    have h := Blk.new (w.alloc (.cells #[.int .i64 a0.F, .int .i64 a0.R, .int .i64 a0.C, .slice A0 a0.l.length c0] 24)) 24 (mtC a1.F a1.R a1.C (.slice A1 a1.l.length c1))
    simp only [World.size_alloc] at h
    exact h
  have HQ4W0 : Hid (BM W0 (w.heap.size + 1) a1 A1 c1) := hideIt ⟨HB4, x1.keep HL0.out⟩
  have HW0 := hideIt hW0
  clear hW0 HB3 HB4 x0 x1
  go_enter Tryd.func9, Tryd.ntmps9
  go_upto_region 1 with fail
  rw [← HW0.out]
  clear HW0
  go_upto_region 1 with fail
  go_cut [7] (fun sv W => ∃ ok : Bool, sv = .bool ok ∧ Aside ((ok = true → smallM a0 = true ∧ smallM a1 = true) ∧ Below W0.heap.size W0 W))
  case first =>
    have HS0 := hideIt (Below.refl W0.heap.size W0)
    go_wp2_with (first | ((with_reducible refine at_load ?_); refine wpList_ldG (by kernel_rfl) (.tmp 3) rfl w.heap.size _ _ _ _ rfl HQ3W0.out.box ?_))
    refine (small_any a0 A0 c0 W0).mono ?_
    rintro e w1 ⟨rfl, hb⟩
    have HSX := hideIt (ls6 HS0.out hb)
    have HLw1 := hideIt (ls6 HL0.out hb)
    have HQ3w1 := hideIt (HQ3W0.out.keep hb)
    have HQ4w1 := hideIt (HQ4W0.out.keep hb)
    clear hb HQ3W0 HQ4W0  HL0
    cases h0 : smallM a0
    · go_wp2_with fail
      go_meet
      exact ⟨_, rfl, ⟨(fun h => Bool.noConfusion h), HSX.out⟩⟩
    · go_wp2_with (first | ((with_reducible refine at_load ?_); refine wpList_ldG (by kernel_rfl) (.tmp 4) rfl (w.heap.size + 1) _ _ _ _ rfl HQ4w1.out.box ?_))
      refine (small_any a1 A1 c1 w1).mono ?_
      rintro e w2 ⟨rfl, hb⟩
      have HSX := hideIt (ls6 HSX.out hb)
      have HLw2 := hideIt (ls6 HLw1.out hb)
      have HQ3w2 := hideIt (HQ3w1.out.keep hb)
      have HQ4w2 := hideIt (HQ4w1.out.keep hb)
      clear hb HQ3w1 HQ4w1  HLw1
      cases h1 : smallM a1
      · go_wp2_with fail
        go_meet
        exact ⟨_, rfl, ⟨(fun h => Bool.noConfusion h), HSX.out⟩⟩
      · go_wp2_with fail
        go_meet
        exact ⟨_, rfl, ⟨(fun _ => ⟨h0, h1⟩), HSX.out⟩⟩
  obtain ⟨ok, rfl, HOK⟩ := hcut
  have HFIT := hideIt HOK.out.1
  have hb := HOK.out.2
  clear HOK
  have HLwc := hideIt (ls6 HL0.out hb)
  have HQ3wc := hideIt (HQ3W0.out.keep hb)
  have HQ4wc := hideIt (HQ4W0.out.keep hb)
  clear hb HQ3W0 HQ4W0  HL0
  go_upto_region 2 with fail
  go_wp2_with (first | ((with_reducible refine at_load ?_); refine wpList_ldG (by kernel_rfl) (.tmp 3) rfl w.heap.size _ _ _ _ rfl HQ3wc.out.box ?_) | ((with_reducible refine at_load ?_); refine wpList_ldG (by kernel_rfl) (.tmp 4) rfl (w.heap.size + 1) _ _ _ _ rfl HQ4wc.out.box ?_))
  refine (mul6_any a0 a1 _ _ _ _ wc (HT.out.keep HLwc.out) HQ3wc.out.mat HQ4wc.out.mat).mono ?_
  rintro e w3 hres
  rw [HR1.out] at hres
  obtain ⟨D3, c3, rfl, hin, hb⟩ := hres.min2
  have HM3 := hideIt hin
  clear hin hres
  have HLw3 := hideIt (ls6 HLwc.out hb)
  have HQ3w3 := hideIt (HQ3wc.out.keep hb)
  have HQ4w3 := hideIt (HQ4wc.out.keep hb)
  clear hb HQ3wc HQ4wc  HLwc
  go_upto_region 3 with fail
  have HS := hideIt (below_new w3 (.cells #[.int .i64 p.F, .int .i64 p.R, .int .i64 p.C, .slice D3 p.l.length c3] 24))
  have HB : Hid (BM (w3.alloc (.cells #[.int .i64 p.F, .int .i64 p.R, .int .i64 p.C, .slice D3 p.l.length c3] 24)) w3.heap.size p D3 c3) := hideIt ⟨Blk.new w3 _ _, HM3.out.keep (below_new _ _)⟩
  obtain ⟨w4, hV⟩ : ∃ V, V = w3.alloc (.cells #[.int .i64 p.F, .int .i64 p.R, .int .i64 p.C, .slice D3 p.l.length c3] 24) := ⟨_, rfl⟩
  rw [← hV] at HS HB ⊢
  obtain ⟨p8, hp⟩ : ∃ p, p = w3.heap.size := ⟨_, rfl⟩
  rw [← hp] at HB ⊢
  have HQ8w4 := HB
  clear hV hp HB HM3
  have hb := HS.out
  clear HS
  have HLw4 := hideIt (ls6 HLw3.out hb)
  have HQ3w4 := hideIt (HQ3w3.out.keep hb)
  have HQ4w4 := hideIt (HQ4w3.out.keep hb)
  clear hb HQ3w3 HQ4w3  HLw3
  go_wp2_with (first | ((with_reducible refine at_load ?_); refine wpList_ldG (by kernel_rfl) (.tmp 3) rfl w.heap.size _ _ _ _ rfl HQ3w4.out.box ?_))
  refine (pick_any a0 rows _ _ _ _ w4 (HT.out.keep HLw4.out) HQ3w4.out.mat (HXR.out _ HLw4.out) mr kr).mono ?_
  rintro e w5 hres
  rw [HR2.out] at hres
  obtain ⟨D5, c5, rfl, hin, hb⟩ := hres.min2
  have HM5 := hideIt hin
  clear hin hres
  have HLw5 := hideIt (ls6 HLw4.out hb)
  have HQ3w5 := hideIt (HQ3w4.out.keep hb)
  have HQ4w5 := hideIt (HQ4w4.out.keep hb)
  have HQ8w5 := hideIt (HQ8w4.out.keep hb)
  clear hb HQ3w4 HQ4w4 HQ8w4  HLw4
  go_upto_region 4 with fail
  have HS := hideIt (below_new w5 (.cells #[.int .i64 q.F, .int .i64 q.R, .int .i64 q.C, .slice D5 q.l.length c5] 24))
  have HB : Hid (BM (w5.alloc (.cells #[.int .i64 q.F, .int .i64 q.R, .int .i64 q.C, .slice D5 q.l.length c5] 24)) w5.heap.size q D5 c5) := hideIt ⟨Blk.new w5 _ _, HM5.out.keep (below_new _ _)⟩
  obtain ⟨w6, hV⟩ : ∃ V, V = w5.alloc (.cells #[.int .i64 q.F, .int .i64 q.R, .int .i64 q.C, .slice D5 q.l.length c5] 24) := ⟨_, rfl⟩
  rw [← hV] at HS HB ⊢
  obtain ⟨p10, hp⟩ : ∃ p, p = w5.heap.size := ⟨_, rfl⟩
  rw [← hp] at HB ⊢
  have HQ10w6 := HB
  clear hV hp HB HM5
  have hb := HS.out
  clear HS
  have HLw6 := hideIt (ls6 HLw5.out hb)
  have HQ3w6 := hideIt (HQ3w5.out.keep hb)
  have HQ4w6 := hideIt (HQ4w5.out.keep hb)
  have HQ8w6 := hideIt (HQ8w5.out.keep hb)
  clear hb HQ3w5 HQ4w5 HQ8w5  HLw5
  cases ok
  · go_wp2_with fail
    refine (sanity_any w6 (HT.out.keep HLw6.out)).mono ?_
    rintro e w7 ⟨rfl, hb⟩
    have HLw7 := hideIt (ls6 HLw6.out hb)
    have HQ3w7 := hideIt (HQ3w6.out.keep hb)
    have HQ4w7 := hideIt (HQ4w6.out.keep hb)
    have HQ8w7 := hideIt (HQ8w6.out.keep hb)
    have HQ10w7 := hideIt (HQ10w6.out.keep hb)
    clear hb HQ3w6 HQ4w6 HQ8w6 HQ10w6  HLw6
    go_wp2_with fail
    go_ret
    exact ⟨rfl, HLw7.out⟩
  · by_cases he : e = 0
    · by_cases hf : f = 0
      subst he
      · subst hf
        obtain ⟨x, hx1, hx2⟩ := pick_mul HR1.out HR2.out
        have HX1 := hideIt hx1
        have HX2 := hideIt hx2
        have HLN := hideIt (show x.l.length ≤ 1024 by have h := mulM_len q a1; rw [hx2] at h; exact h)
        clear hx1 hx2
        go_upto_region 6 with fail
        go_wp2_with (first | ((with_reducible refine at_load ?_); refine wpList_ldG (by kernel_rfl) (.tmp 8) rfl p8 _ _ _ _ rfl HQ8w6.out.box ?_))
        refine (pick_any p rows _ _ _ _ w6 (HT.out.keep HLw6.out) HQ8w6.out.mat (HXR.out _ HLw6.out) mr kr).mono ?_
        rintro e w7 hres
        rw [HX1.out] at hres
        obtain ⟨D7, c7, rfl, hin, hb⟩ := hres.min2
        have HM7 := hideIt hin
        clear hin hres
        have HLw7 := hideIt (ls6 HLw6.out hb)
        have HQ3w7 := hideIt (HQ3w6.out.keep hb)
        have HQ4w7 := hideIt (HQ4w6.out.keep hb)
        have HQ8w7 := hideIt (HQ8w6.out.keep hb)
        have HQ10w7 := hideIt (HQ10w6.out.keep hb)
        clear hb HQ3w6 HQ4w6 HQ8w6 HQ10w6  HLw6
        go_upto_region 7 with fail
        have HS := hideIt (below_new w7 (.cells #[.int .i64 x.F, .int .i64 x.R, .int .i64 x.C, .slice D7 x.l.length c7] 24))
        have HB : Hid (BM (w7.alloc (.cells #[.int .i64 x.F, .int .i64 x.R, .int .i64 x.C, .slice D7 x.l.length c7] 24)) w7.heap.size x D7 c7) := hideIt ⟨Blk.new w7 _ _, HM7.out.keep (below_new _ _)⟩
        obtain ⟨w8, hV⟩ : ∃ V, V = w7.alloc (.cells #[.int .i64 x.F, .int .i64 x.R, .int .i64 x.C, .slice D7 x.l.length c7] 24) := ⟨_, rfl⟩
        rw [← hV] at HS HB ⊢
        obtain ⟨p12, hp⟩ : ∃ p, p = w7.heap.size := ⟨_, rfl⟩
        rw [← hp] at HB ⊢
        have HQ12w8 := HB
        clear hV hp HB HM7
        have hb := HS.out
        clear HS
        have HLw8 := hideIt (ls6 HLw7.out hb)
        have HQ3w8 := hideIt (HQ3w7.out.keep hb)
        have HQ4w8 := hideIt (HQ4w7.out.keep hb)
        have HQ8w8 := hideIt (HQ8w7.out.keep hb)
        have HQ10w8 := hideIt (HQ10w7.out.keep hb)
        clear hb HQ3w7 HQ4w7 HQ8w7 HQ10w7  HLw7
        go_wp2_with (first | ((with_reducible refine at_load ?_); refine wpList_ldG (by kernel_rfl) (.tmp 10) rfl p10 _ _ _ _ rfl HQ10w8.out.box ?_) | ((with_reducible refine at_load ?_); refine wpList_ldG (by kernel_rfl) (.tmp 4) rfl (w.heap.size + 1) _ _ _ _ rfl HQ4w8.out.box ?_))
        refine (mul6_any q a1 _ _ _ _ w8 (HT.out.keep HLw8.out) HQ10w8.out.mat HQ4w8.out.mat).mono ?_
        rintro e w9 hres
        rw [HX2.out] at hres
        obtain ⟨D9, c9, rfl, hin, hb⟩ := hres.min2
        have HM9 := hideIt hin
        clear hin hres
        have HLw9 := hideIt (ls6 HLw8.out hb)
        have HQ3w9 := hideIt (HQ3w8.out.keep hb)
        have HQ4w9 := hideIt (HQ4w8.out.keep hb)
        have HQ8w9 := hideIt (HQ8w8.out.keep hb)
        have HQ10w9 := hideIt (HQ10w8.out.keep hb)
        have HQ12w9 := hideIt (HQ12w8.out.keep hb)
        clear hb HQ3w8 HQ4w8 HQ8w8 HQ10w8 HQ12w8  HLw8
        go_upto_region 8 with fail
        have HS := hideIt (below_new w9 (.cells #[.int .i64 x.F, .int .i64 x.R, .int .i64 x.C, .slice D9 x.l.length c9] 24))
        have HB : Hid (BM (w9.alloc (.cells #[.int .i64 x.F, .int .i64 x.R, .int .i64 x.C, .slice D9 x.l.length c9] 24)) w9.heap.size x D9 c9) := hideIt ⟨Blk.new w9 _ _, HM9.out.keep (below_new _ _)⟩
        obtain ⟨w10, hV⟩ : ∃ V, V = w9.alloc (.cells #[.int .i64 x.F, .int .i64 x.R, .int .i64 x.C, .slice D9 x.l.length c9] 24) := ⟨_, rfl⟩
        rw [← hV] at HS HB ⊢
        obtain ⟨p14, hp⟩ : ∃ p, p = w9.heap.size := ⟨_, rfl⟩
        rw [← hp] at HB ⊢
        have HQ14w10 := HB
        clear hV hp HB HM9
        have hb := HS.out
        clear HS
        have HLw10 := hideIt (ls6 HLw9.out hb)
        have HQ3w10 := hideIt (HQ3w9.out.keep hb)
        have HQ4w10 := hideIt (HQ4w9.out.keep hb)
        have HQ8w10 := hideIt (HQ8w9.out.keep hb)
        have HQ10w10 := hideIt (HQ10w9.out.keep hb)
        have HQ12w10 := hideIt (HQ12w9.out.keep hb)
        clear hb HQ3w9 HQ4w9 HQ8w9 HQ10w9 HQ12w9  HLw9
        go_wp2_with fail
        refine (sanity_any w10 (HT.out.keep HLw10.out)).mono ?_
        rintro e w11 ⟨rfl, hb⟩
        have HLw11 := hideIt (ls6 HLw10.out hb)
        have HQ3w11 := hideIt (HQ3w10.out.keep hb)
        have HQ4w11 := hideIt (HQ4w10.out.keep hb)
        have HQ8w11 := hideIt (HQ8w10.out.keep hb)
        have HQ10w11 := hideIt (HQ10w10.out.keep hb)
        have HQ12w11 := hideIt (HQ12w10.out.keep hb)
        have HQ14w11 := hideIt (HQ14w10.out.keep hb)
        clear hb HQ3w10 HQ4w10 HQ8w10 HQ10w10 HQ12w10 HQ14w10  HLw10
        go_wp2_with (first | ((with_reducible refine at_load ?_); refine wpList_ldG (by kernel_rfl) (.tmp 12) rfl p12 _ _ _ _ rfl HQ12w11.out.box ?_) | ((with_reducible refine at_load ?_); refine wpList_ldG (by kernel_rfl) (.tmp 14) rfl p14 _ _ _ _ rfl HQ14w11.out.box ?_))
        refine (rsame_any x x D7 D9 c7 c9 w11 HQ12w11.out.mat HQ14w11.out.mat (Nat.le_trans HLN.out (by decide))).mono ?_
        rintro e w12 ⟨rfl, hb⟩
        rw [sameM_self]
        have HLw12 := hideIt (ls6 HLw11.out hb)
        have HQ3w12 := hideIt (HQ3w11.out.keep hb)
        have HQ4w12 := hideIt (HQ4w11.out.keep hb)
        have HQ8w12 := hideIt (HQ8w11.out.keep hb)
        have HQ10w12 := hideIt (HQ10w11.out.keep hb)
        have HQ12w12 := hideIt (HQ12w11.out.keep hb)
        have HQ14w12 := hideIt (HQ14w11.out.keep hb)
        clear hb HQ3w11 HQ4w11 HQ8w11 HQ10w11 HQ12w11 HQ14w11  HLw11
        go_wp2_with fail
        go_ret
        exact ⟨rfl, HLw12.out⟩
      · have hq2 := int_neqT6 27 hf
        clear hf
        go_wp2_with fail
        refine (sanity_any w6 (HT.out.keep HLw6.out)).mono ?_
        rintro e w7 ⟨rfl, hb⟩
        have HLw7 := hideIt (ls6 HLw6.out hb)
        have HQ3w7 := hideIt (HQ3w6.out.keep hb)
        have HQ4w7 := hideIt (HQ4w6.out.keep hb)
        have HQ8w7 := hideIt (HQ8w6.out.keep hb)
        have HQ10w7 := hideIt (HQ10w6.out.keep hb)
        clear hb HQ3w6 HQ4w6 HQ8w6 HQ10w6  HLw6
        go_wp2_with fail
        go_ret
        exact ⟨rfl, HLw7.out⟩
    · have hq1 := int_neqT6 27 he
      clear he
      go_wp2_with fail
      refine (sanity_any w6 (HT.out.keep HLw6.out)).mono ?_
      rintro e w7 ⟨rfl, hb⟩
      have HLw7 := hideIt (ls6 HLw6.out hb)
      have HQ3w7 := hideIt (HQ3w6.out.keep hb)
      have HQ4w7 := hideIt (HQ4w6.out.keep hb)
      have HQ8w7 := hideIt (HQ8w6.out.keep hb)
      have HQ10w7 := hideIt (HQ10w6.out.keep hb)
      clear hb HQ3w6 HQ4w6 HQ8w6 HQ10w6  HLw6
      go_wp2_with fail
      go_ret
      exact ⟨rfl, HLw7.out⟩

end Go.Proofs.YtodmcojcmihooaaDoor.matrixPicks
