/-
  The walk of the law: For every field and size, the identity or the error is that of the specification, and multiplying by the identity changes nothing.
-/
import Derived.Test.YtodmcojcmihooaaDoorMatJ
import Derived.Test.YtodmcojcmihooaaDoorMatSan
import Derived.Test.YtodmcojcmihooaaDoorArgM
namespace Go.Proofs.YtodmcojcmihooaaDoor.matrixIdentity
open Go.RowKit
set_option linter.unusedVariables false

set_option maxHeartbeats 4000000 in
set_option maxRecDepth 100000 in
theorem walk (a0 : Mt) (A0 : Option Addr) (c0 : Nat) (a1 : Int) (a2 : Int) (w : World) (x0 : MIn w a0 A0 c0) (w1 : -9223372036854775808 ≤ a1 ∧ a1 ≤ 9223372036854775807) (w2 : -9223372036854775808 ≤ a2 ∧ a2 ≤ 9223372036854775807) (T1 : Tabs w) :
    Calls Tryd.prog 4 #[mtV a0.F a0.R a0.C (.slice A0 a0.l.length c0), .int .i64 a1, .int .i64 a2] w fun e w' => e = .returned (.bool true) ∧ Below w.heap.size w w' := by
  obtain ⟨p, e, hr1⟩ : ∃ p e, idM a1 a2 = (p, e) := ⟨_, _, rfl⟩
  have HR1 := hideIt hr1
  have HLP := hideIt (show p.l.length ≤ 1024 by have h := idM_len a1 a2; rw [hr1] at h; exact h)
  have hqe := int_eqlT 27 (a := e) (b := e) rfl
  clear hr1 w1 w2
  have HT := hideIt T1
  clear T1
  obtain ⟨W0, hW0⟩ : ∃ W, W = (w.alloc (.cells #[.int .i64 a0.F, .int .i64 a0.R, .int .i64 a0.C, .slice A0 a0.l.length c0] 24)) := ⟨_, rfl⟩
  have HL0 : Hid (Below w.heap.size w W0) := hideIt (by rw [hW0]; exact ((Below.refl _ w).alloc (Nat.le_refl _) _))
  have HB3 : Blk W0 w.heap.size 24 (mtC a0.F a0.R a0.C (.slice A0 a0.l.length c0)) := by
    rw [hW0]
    have h := Blk.new w 24 (mtC a0.F a0.R a0.C (.slice A0 a0.l.length c0))
    exact h
  have HQ3W0 : Hid (BM W0 w.heap.size a0 A0 c0) := hideIt ⟨HB3, x0.keep HL0.out⟩
  have HW0 := hideIt hW0
  clear hW0 HB3 x0
  go_enter Tryd.func4, Tryd.ntmps4
  go_upto_region 1 with fail
  rw [← HW0.out]
  clear HW0
  go_wp2_with fail
  refine (ident_any a1 a2 W0 (HT.out.keep HL0.out)).mono ?_
  rintro e w1 hres
  rw [HR1.out] at hres
  obtain ⟨D1, c1, rfl, hin, hb⟩ := hres.min2
  have HM1 := hideIt hin
  clear hin hres
  have HLw1 := hideIt (ls6 HL0.out hb)
  have HQ3w1 := hideIt (HQ3W0.out.keep hb)
  clear hb HQ3W0  HL0
  go_upto_region 2 with fail
  have HS := hideIt (below_new w1 (.cells #[.int .i64 p.F, .int .i64 p.R, .int .i64 p.C, .slice D1 p.l.length c1] 24))
  have HB : Hid (BM (w1.alloc (.cells #[.int .i64 p.F, .int .i64 p.R, .int .i64 p.C, .slice D1 p.l.length c1] 24)) w1.heap.size p D1 c1) := hideIt ⟨Blk.new w1 _ _, HM1.out.keep (below_new _ _)⟩
  obtain ⟨w2, hV⟩ : ∃ V, V = w1.alloc (.cells #[.int .i64 p.F, .int .i64 p.R, .int .i64 p.C, .slice D1 p.l.length c1] 24) := ⟨_, rfl⟩
  rw [← hV] at HS HB ⊢
  obtain ⟨p7, hp⟩ : ∃ p, p = w1.heap.size := ⟨_, rfl⟩
  rw [← hp] at HB ⊢
  have HQ7w2 := HB
  clear hV hp HB HM1
  have hb := HS.out
  clear HS
  have HLw2 := hideIt (ls6 HLw1.out hb)
  have HQ3w2 := hideIt (HQ3w1.out.keep hb)
  clear hb HQ3w1  HLw1
  go_wp2_with fail
  refine (rident_any a1 a2 w2).mono ?_
  rintro e w3 hres
  rw [HR1.out] at hres
  obtain ⟨D3, c3, rfl, hin, hb⟩ := hres.min2
  have HM3 := hideIt hin
  clear hin hres
  have HLw3 := hideIt (ls6 HLw2.out hb)
  have HQ3w3 := hideIt (HQ3w2.out.keep hb)
  have HQ7w3 := hideIt (HQ7w2.out.keep hb)
  clear hb HQ3w2 HQ7w2  HLw2
  go_upto_region 3 with fail
  have HS := hideIt (below_new w3 (.cells #[.int .i64 p.F, .int .i64 p.R, .int .i64 p.C, .slice D3 p.l.length c3] 24))
  have HB : Hid (BM (w3.alloc (.cells #[.int .i64 p.F, .int .i64 p.R, .int .i64 p.C, .slice D3 p.l.length c3] 24)) w3.heap.size p D3 c3) := hideIt ⟨Blk.new w3 _ _, HM3.out.keep (below_new _ _)⟩
  obtain ⟨w4, hV⟩ : ∃ V, V = w3.alloc (.cells #[.int .i64 p.F, .int .i64 p.R, .int .i64 p.C, .slice D3 p.l.length c3] 24) := ⟨_, rfl⟩
  rw [← hV] at HS HB ⊢
  obtain ⟨p9, hp⟩ : ∃ p, p = w3.heap.size := ⟨_, rfl⟩
  rw [← hp] at HB ⊢
  have HQ9w4 := HB
  clear hV hp HB HM3
  have hb := HS.out
  clear HS
  have HLw4 := hideIt (ls6 HLw3.out hb)
  have HQ3w4 := hideIt (HQ3w3.out.keep hb)
  have HQ7w4 := hideIt (HQ7w3.out.keep hb)
  clear hb HQ3w3 HQ7w3  HLw3
  go_upto_region 3 with fail
  go_cut [11] (fun sv W => ∃ ok : Bool, sv = .bool ok ∧ Aside ((ok = true → smallM a0 = true ∧ vM a0 = true) ∧ Below w4.heap.size w4 W))
  case first =>
    have HS0 := hideIt (Below.refl w4.heap.size w4)
    go_wp2_with (first | ((with_reducible refine at_load ?_); refine wpList_ldG (by kernel_rfl) (.tmp 3) rfl w.heap.size _ _ _ _ rfl HQ3w4.out.box ?_))
    refine (small_any a0 A0 c0 w4).mono ?_
    rintro e w5 ⟨rfl, hb⟩
    have HSX := hideIt (ls6 HS0.out hb)
    have HLw5 := hideIt (ls6 HLw4.out hb)
    have HQ3w5 := hideIt (HQ3w4.out.keep hb)
    have HQ7w5 := hideIt (HQ7w4.out.keep hb)
    have HQ9w5 := hideIt (HQ9w4.out.keep hb)
    clear hb HQ3w4 HQ7w4 HQ9w4  HLw4
    cases h0 : smallM a0
    · go_wp2_with fail
      go_meet
      exact ⟨_, rfl, ⟨(fun h => Bool.noConfusion h), HSX.out⟩⟩
    · go_wp2_with (first | ((with_reducible refine at_load ?_); refine wpList_ldG (by kernel_rfl) (.tmp 3) rfl w.heap.size _ _ _ _ rfl HQ3w5.out.box ?_))
      refine (rvalid_b HQ3w5.out.mat w5 (Below.refl _ _)).mono ?_
      rintro e w6 ⟨rfl, hb⟩
      have HSX := hideIt (ls6 HSX.out hb)
      have HLw6 := hideIt (ls6 HLw5.out hb)
      have HQ3w6 := hideIt (HQ3w5.out.keep hb)
      have HQ7w6 := hideIt (HQ7w5.out.keep hb)
      have HQ9w6 := hideIt (HQ9w5.out.keep hb)
      clear hb HQ3w5 HQ7w5 HQ9w5  HLw5
      cases h1 : vM a0
      · go_wp2_with fail
        go_meet
        exact ⟨_, rfl, ⟨(fun h => Bool.noConfusion h), HSX.out⟩⟩
      · go_wp2_with fail
        go_meet
        exact ⟨_, rfl, ⟨(fun _ => ⟨h0, h1⟩), HSX.out⟩⟩
  obtain ⟨ok, rfl, HOK⟩ := hcut
  have HFIT := hideIt HOK.out.1
  have hb := HOK.out.2
  clear HOK
  have HLwc := hideIt (ls6 HLw4.out hb)
  have HQ3wc := hideIt (HQ3w4.out.keep hb)
  have HQ7wc := hideIt (HQ7w4.out.keep hb)
  have HQ9wc := hideIt (HQ9w4.out.keep hb)
  clear hb HQ3w4 HQ7w4 HQ9w4  HLw4
  cases ok
  · go_wp2_with fail
    refine (sanity_any wc (HT.out.keep HLwc.out)).mono ?_
    rintro e w7 ⟨rfl, hb⟩
    have HLw7 := hideIt (ls6 HLwc.out hb)
    have HQ3w7 := hideIt (HQ3wc.out.keep hb)
    have HQ7w7 := hideIt (HQ7wc.out.keep hb)
    have HQ9w7 := hideIt (HQ9wc.out.keep hb)
    clear hb HQ3wc HQ7wc HQ9wc  HLwc
    go_wp2_with (first | ((with_reducible refine at_load ?_); refine wpList_ldG (by kernel_rfl) (.tmp 7) rfl p7 _ _ _ _ rfl HQ7w7.out.box ?_) | ((with_reducible refine at_load ?_); refine wpList_ldG (by kernel_rfl) (.tmp 9) rfl p9 _ _ _ _ rfl HQ9w7.out.box ?_))
    refine (rsame_any p p D1 D3 c1 c3 w7 HQ7w7.out.mat HQ9w7.out.mat (Nat.le_trans HLP.out (by decide))).mono ?_
    rintro e w8 ⟨rfl, hb⟩
    rw [sameM_self]
    have HLw8 := hideIt (ls6 HLw7.out hb)
    have HQ3w8 := hideIt (HQ3w7.out.keep hb)
    have HQ7w8 := hideIt (HQ7w7.out.keep hb)
    have HQ9w8 := hideIt (HQ9w7.out.keep hb)
    clear hb HQ3w7 HQ7w7 HQ9w7  HLw7
    go_wp2_with fail
    go_ret
    exact ⟨rfl, HLw8.out⟩
  · by_cases h1 : a1 = a0.F
    · by_cases h2 : a2 = a0.R
      · have HV := hideIt (HFIT.out (by trivial)).2
        have hx := id_mul HV.out
        rw [← h1, ← h2, HR1.out] at hx
        have HX := hideIt (show mulM p a0 = (a0, 0) from hx)
        have HLA := hideIt (vM_len HV.out)
        have hq1 := int_neqF6 3 h1
        have hq2 := int_neqF6 3 h2
        clear hx h1 h2
        have cf30 := HQ3wc.out.box.cell 0
        have cf31 := HQ3wc.out.box.cell 1
        go_upto_region 6 with fail
        clear cf30 cf31
        go_wp2_with (first | ((with_reducible refine at_load ?_); refine wpList_ldG (by kernel_rfl) (.tmp 7) rfl p7 _ _ _ _ rfl HQ7wc.out.box ?_) | ((with_reducible refine at_load ?_); refine wpList_ldG (by kernel_rfl) (.tmp 3) rfl w.heap.size _ _ _ _ rfl HQ3wc.out.box ?_))
        refine (mul6_any p a0 _ _ _ _ wc (HT.out.keep HLwc.out) HQ7wc.out.mat HQ3wc.out.mat).mono ?_
        rintro e w7 hres
        rw [HX.out] at hres
        obtain ⟨D7, c7, rfl, hin, hb⟩ := hres.min2
        have HM7 := hideIt hin
        clear hin hres
        have HLw7 := hideIt (ls6 HLwc.out hb)
        have HQ3w7 := hideIt (HQ3wc.out.keep hb)
        have HQ7w7 := hideIt (HQ7wc.out.keep hb)
        have HQ9w7 := hideIt (HQ9wc.out.keep hb)
        clear hb HQ3wc HQ7wc HQ9wc  HLwc
        go_upto_region 7 with fail
        have HS := hideIt (below_new w7 (.cells #[.int .i64 a0.F, .int .i64 a0.R, .int .i64 a0.C, .slice D7 a0.l.length c7] 24))
        have HB : Hid (BM (w7.alloc (.cells #[.int .i64 a0.F, .int .i64 a0.R, .int .i64 a0.C, .slice D7 a0.l.length c7] 24)) w7.heap.size a0 D7 c7) := hideIt ⟨Blk.new w7 _ _, HM7.out.keep (below_new _ _)⟩
        obtain ⟨w8, hV⟩ : ∃ V, V = w7.alloc (.cells #[.int .i64 a0.F, .int .i64 a0.R, .int .i64 a0.C, .slice D7 a0.l.length c7] 24) := ⟨_, rfl⟩
        rw [← hV] at HS HB ⊢
        obtain ⟨p12, hp⟩ : ∃ p, p = w7.heap.size := ⟨_, rfl⟩
        rw [← hp] at HB ⊢
        have HQ12w8 := HB
        clear hV hp HB HM7
        have hb := HS.out
        clear HS
        have HLw8 := hideIt (ls6 HLw7.out hb)
        have HQ3w8 := hideIt (HQ3w7.out.keep hb)
        have HQ7w8 := hideIt (HQ7w7.out.keep hb)
        have HQ9w8 := hideIt (HQ9w7.out.keep hb)
        clear hb HQ3w7 HQ7w7 HQ9w7  HLw7
        go_wp2_with fail
        refine (sanity_any w8 (HT.out.keep HLw8.out)).mono ?_
        rintro e w9 ⟨rfl, hb⟩
        have HLw9 := hideIt (ls6 HLw8.out hb)
        have HQ3w9 := hideIt (HQ3w8.out.keep hb)
        have HQ7w9 := hideIt (HQ7w8.out.keep hb)
        have HQ9w9 := hideIt (HQ9w8.out.keep hb)
        have HQ12w9 := hideIt (HQ12w8.out.keep hb)
        clear hb HQ3w8 HQ7w8 HQ9w8 HQ12w8  HLw8
        go_wp2_with (first | ((with_reducible refine at_load ?_); refine wpList_ldG (by kernel_rfl) (.tmp 7) rfl p7 _ _ _ _ rfl HQ7w9.out.box ?_) | ((with_reducible refine at_load ?_); refine wpList_ldG (by kernel_rfl) (.tmp 9) rfl p9 _ _ _ _ rfl HQ9w9.out.box ?_))
        refine (rsame_any p p D1 D3 c1 c3 w9 HQ7w9.out.mat HQ9w9.out.mat (Nat.le_trans HLP.out (by decide))).mono ?_
        rintro e w10 ⟨rfl, hb⟩
        rw [sameM_self]
        have HLw10 := hideIt (ls6 HLw9.out hb)
        have HQ3w10 := hideIt (HQ3w9.out.keep hb)
        have HQ7w10 := hideIt (HQ7w9.out.keep hb)
        have HQ9w10 := hideIt (HQ9w9.out.keep hb)
        have HQ12w10 := hideIt (HQ12w9.out.keep hb)
        clear hb HQ3w9 HQ7w9 HQ9w9 HQ12w9  HLw9
        go_wp2_with (first | ((with_reducible refine at_load ?_); refine wpList_ldG (by kernel_rfl) (.tmp 12) rfl p12 _ _ _ _ rfl HQ12w10.out.box ?_) | ((with_reducible refine at_load ?_); refine wpList_ldG (by kernel_rfl) (.tmp 3) rfl w.heap.size _ _ _ _ rfl HQ3w10.out.box ?_))
        refine (rsame_any a0 a0 D7 A0 c7 c0 w10 HQ12w10.out.mat HQ3w10.out.mat (Nat.le_trans HLA.out (by decide))).mono ?_
        rintro e w11 ⟨rfl, hb⟩
        rw [sameM_self]
        have HLw11 := hideIt (ls6 HLw10.out hb)
        have HQ3w11 := hideIt (HQ3w10.out.keep hb)
        have HQ7w11 := hideIt (HQ7w10.out.keep hb)
        have HQ9w11 := hideIt (HQ9w10.out.keep hb)
        have HQ12w11 := hideIt (HQ12w10.out.keep hb)
        clear hb HQ3w10 HQ7w10 HQ9w10 HQ12w10  HLw10
        go_wp2_with fail
        go_ret
        exact ⟨rfl, HLw11.out⟩
      · have hq1 := int_neqF6 3 h1
        have hq2 := int_neqT6 3 h2
        clear h1 h2
        have cf30 := HQ3wc.out.box.cell 0
        have cf31 := HQ3wc.out.box.cell 1
        go_upto_region 5 with fail
        clear cf30 cf31
        go_wp2_with fail
        refine (sanity_any wc (HT.out.keep HLwc.out)).mono ?_
        rintro e w7 ⟨rfl, hb⟩
        have HLw7 := hideIt (ls6 HLwc.out hb)
        have HQ3w7 := hideIt (HQ3wc.out.keep hb)
        have HQ7w7 := hideIt (HQ7wc.out.keep hb)
        have HQ9w7 := hideIt (HQ9wc.out.keep hb)
        clear hb HQ3wc HQ7wc HQ9wc  HLwc
        go_wp2_with (first | ((with_reducible refine at_load ?_); refine wpList_ldG (by kernel_rfl) (.tmp 7) rfl p7 _ _ _ _ rfl HQ7w7.out.box ?_) | ((with_reducible refine at_load ?_); refine wpList_ldG (by kernel_rfl) (.tmp 9) rfl p9 _ _ _ _ rfl HQ9w7.out.box ?_))
        refine (rsame_any p p D1 D3 c1 c3 w7 HQ7w7.out.mat HQ9w7.out.mat (Nat.le_trans HLP.out (by decide))).mono ?_
        rintro e w8 ⟨rfl, hb⟩
        rw [sameM_self]
        have HLw8 := hideIt (ls6 HLw7.out hb)
        have HQ3w8 := hideIt (HQ3w7.out.keep hb)
        have HQ7w8 := hideIt (HQ7w7.out.keep hb)
        have HQ9w8 := hideIt (HQ9w7.out.keep hb)
        clear hb HQ3w7 HQ7w7 HQ9w7  HLw7
        go_wp2_with fail
        go_ret
        exact ⟨rfl, HLw8.out⟩
    · have hq1 := int_neqT6 3 h1
      clear h1
      have cf30 := HQ3wc.out.box.cell 0
      have cf31 := HQ3wc.out.box.cell 1
      go_upto_region 5 with fail
      clear cf30 cf31
      go_wp2_with fail
      refine (sanity_any wc (HT.out.keep HLwc.out)).mono ?_
      rintro e w7 ⟨rfl, hb⟩
      have HLw7 := hideIt (ls6 HLwc.out hb)
      have HQ3w7 := hideIt (HQ3wc.out.keep hb)
      have HQ7w7 := hideIt (HQ7wc.out.keep hb)
      have HQ9w7 := hideIt (HQ9wc.out.keep hb)
      clear hb HQ3wc HQ7wc HQ9wc  HLwc
      go_wp2_with (first | ((with_reducible refine at_load ?_); refine wpList_ldG (by kernel_rfl) (.tmp 7) rfl p7 _ _ _ _ rfl HQ7w7.out.box ?_) | ((with_reducible refine at_load ?_); refine wpList_ldG (by kernel_rfl) (.tmp 9) rfl p9 _ _ _ _ rfl HQ9w7.out.box ?_))
      refine (rsame_any p p D1 D3 c1 c3 w7 HQ7w7.out.mat HQ9w7.out.mat (Nat.le_trans HLP.out (by decide))).mono ?_
      rintro e w8 ⟨rfl, hb⟩
      rw [sameM_self]
      have HLw8 := hideIt (ls6 HLw7.out hb)
      have HQ3w8 := hideIt (HQ3w7.out.keep hb)
      have HQ7w8 := hideIt (HQ7w7.out.keep hb)
      have HQ9w8 := hideIt (HQ9w7.out.keep hb)
      clear hb HQ3w7 HQ7w7 HQ9w7  HLw7
      go_wp2_with fail
      go_ret
      exact ⟨rfl, HLw8.out⟩

end Go.Proofs.YtodmcojcmihooaaDoor.matrixIdentity
