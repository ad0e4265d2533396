/-
  The walk of the law: For every two matrices, the solution or the error is that of the specification; a solution multiplied by the first matrix is the second one; and if there is none, appending the columns of the second matrix increases the rank.
-/
import Derived.Test.YtodmcojcmihooaaDoorMatJ
import Derived.Test.YtodmcojcmihooaaDoorMatSan
import Derived.Test.YtodmcojcmihooaaDoorArgM
namespace Go.Proofs.YtodmcojcmihooaaDoor.matrixSolves
open Go.RowKit
set_option linter.unusedVariables false

set_option maxHeartbeats 4000000 in
set_option maxRecDepth 100000 in
theorem walk (a0 : Mt) (A0 : Option Addr) (c0 : Nat) (a1 : Mt) (A1 : Option Addr) (c1 : Nat) (w : World) (x0 : MIn w a0 A0 c0) (x1 : MIn w a1 A1 c1) (T1 : Tabs w) :
    Calls Tryd.prog 5 #[mtV a0.F a0.R a0.C (.slice A0 a0.l.length c0), mtV a1.F a1.R a1.C (.slice A1 a1.l.length c1)] w fun e w' => e = .returned (.bool true) ∧ Below w.heap.size w w' := by
  obtain ⟨x, e, hr1⟩ : ∃ p e, solveM a0 a1 = (p, e) := ⟨_, _, rfl⟩
  have HR1 := hideIt hr1
  have HLX := hideIt (show x.l.length ≤ 1024 by have h := solveM_len a0 a1; rw [hr1] at h; exact h)
  clear hr1
  have HT := hideIt T1
  clear T1
  obtain ⟨W0, hW0⟩ : ∃ W, W = ((w.alloc (.cells #[.int .i64 a0.F, .int .i64 a0.R, .int .i64 a0.C, .slice A0 a0.l.length c0] 24)).alloc (.cells #[.int .i64 a1.F, .int .i64 a1.R, .int .i64 a1.C, .slice A1 a1.l.length c1] 24)) := ⟨_, rfl⟩
  have HL0 : Hid (Below w.heap.size w W0) := hideIt (by rw [hW0]; exact (((Below.refl _ w).alloc (Nat.le_refl _) _).alloc (by simp; try omega) _))
  have HB2 : Blk W0 w.heap.size 24 (mtC a0.F a0.R a0.C (.slice A0 a0.l.length c0)) := by
    rw [hW0]
    have h := Blk.new w 24 (mtC a0.F a0.R a0.C (.slice A0 a0.l.length c0))
    exact (h.alloc _)
  have HQ2W0 : Hid (BM W0 w.heap.size a0 A0 c0) := hideIt ⟨HB2, x0.keep HL0.out⟩
  have HB3 : Blk W0 (w.heap.size + 1) 24 (mtC a1.F a1.R a1.C (.slice A1 a1.l.length c1)) := by
    rw [hW0]
    have h := Blk.new (w.alloc (.cells #[.int .i64 a0.F, .int .i64 a0.R, .int .i64 a0.C, .slice A0 a0.l.length c0] 24)) 24 (mtC a1.F a1.R a1.C (.slice A1 a1.l.length c1))
    simp only [World.size_alloc] at h
    exact h
  have HQ3W0 : Hid (BM W0 (w.heap.size + 1) a1 A1 c1) := hideIt ⟨HB3, x1.keep HL0.out⟩
  have HW0 := hideIt hW0
  clear hW0 HB2 HB3 x0 x1
  go_enter Tryd.func5, Tryd.ntmps5
  go_upto_region 1 with fail
  rw [← HW0.out]
  clear HW0
  go_upto_region 1 with fail
  go_cut [5] (fun sv W => ∃ ok : Bool, sv = .bool ok ∧ Aside ((ok = true → smallM a0 = true ∧ smallM a1 = true) ∧ Below W0.heap.size W0 W))
  case first =>
    have HS0 := hideIt (Below.refl W0.heap.size W0)
    go_wp2_with (first | ((with_reducible refine at_load ?_); refine wpList_ldG (by kernel_rfl) (.tmp 2) rfl w.heap.size _ _ _ _ rfl HQ2W0.out.box ?_))
    refine (small_any a0 A0 c0 W0).mono ?_
    rintro e w1 ⟨rfl, hb⟩
    have HSX := hideIt (ls6 HS0.out hb)
    have HLw1 := hideIt (ls6 HL0.out hb)
    have HQ2w1 := hideIt (HQ2W0.out.keep hb)
    have HQ3w1 := hideIt (HQ3W0.out.keep hb)
    clear hb HQ2W0 HQ3W0  HL0
    cases h0 : smallM a0
    · go_wp2_with fail
      go_meet
      exact ⟨_, rfl, ⟨(fun h => Bool.noConfusion h), HSX.out⟩⟩
    · go_wp2_with (first | ((with_reducible refine at_load ?_); refine wpList_ldG (by kernel_rfl) (.tmp 3) rfl (w.heap.size + 1) _ _ _ _ rfl HQ3w1.out.box ?_))
      refine (small_any a1 A1 c1 w1).mono ?_
      rintro e w2 ⟨rfl, hb⟩
      have HSX := hideIt (ls6 HSX.out hb)
      have HLw2 := hideIt (ls6 HLw1.out hb)
      have HQ2w2 := hideIt (HQ2w1.out.keep hb)
      have HQ3w2 := hideIt (HQ3w1.out.keep hb)
      clear hb HQ2w1 HQ3w1  HLw1
      cases h1 : smallM a1
      · go_wp2_with fail
        go_meet
        exact ⟨_, rfl, ⟨(fun h => Bool.noConfusion h), HSX.out⟩⟩
      · go_wp2_with fail
        go_meet
        exact ⟨_, rfl, ⟨(fun _ => ⟨h0, h1⟩), HSX.out⟩⟩
  obtain ⟨ok, rfl, HOK⟩ := hcut
  have HFIT := hideIt HOK.out.1
  have hb := HOK.out.2
  clear HOK
  have HLwc := hideIt (ls6 HL0.out hb)
  have HQ2wc := hideIt (HQ2W0.out.keep hb)
  have HQ3wc := hideIt (HQ3W0.out.keep hb)
  clear hb HQ2W0 HQ3W0  HL0
  cases ok
  · go_wp2_with fail
    refine (sanity_any wc (HT.out.keep HLwc.out)).mono ?_
    rintro e w3 ⟨rfl, hb⟩
    have HLw3 := hideIt (ls6 HLwc.out hb)
    have HQ2w3 := hideIt (HQ2wc.out.keep hb)
    have HQ3w3 := hideIt (HQ3wc.out.keep hb)
    clear hb HQ2wc HQ3wc  HLwc
    go_wp2_with fail
    go_ret
    exact ⟨rfl, HLw3.out⟩
  · go_upto_region 4 with fail
    go_wp2_with (first | ((with_reducible refine at_load ?_); refine wpList_ldG (by kernel_rfl) (.tmp 2) rfl w.heap.size _ _ _ _ rfl HQ2wc.out.box ?_) | ((with_reducible refine at_load ?_); refine wpList_ldG (by kernel_rfl) (.tmp 3) rfl (w.heap.size + 1) _ _ _ _ rfl HQ3wc.out.box ?_))
    refine (solve_any a0 a1 _ _ _ _ wc (HT.out.keep HLwc.out) HQ2wc.out.mat HQ3wc.out.mat).mono ?_
    rintro e w3 hres
    rw [HR1.out] at hres
    obtain ⟨D3, c3, rfl, hin, hb⟩ := hres.min2
    have HM3 := hideIt hin
    clear hin hres
    have HLw3 := hideIt (ls6 HLwc.out hb)
    have HQ2w3 := hideIt (HQ2wc.out.keep hb)
    have HQ3w3 := hideIt (HQ3wc.out.keep hb)
    clear hb HQ2wc HQ3wc  HLwc
    go_upto_region 5 with fail
    have HS := hideIt (below_new w3 (.cells #[.int .i64 x.F, .int .i64 x.R, .int .i64 x.C, .slice D3 x.l.length c3] 24))
    have HB : Hid (BM (w3.alloc (.cells #[.int .i64 x.F, .int .i64 x.R, .int .i64 x.C, .slice D3 x.l.length c3] 24)) w3.heap.size x D3 c3) := hideIt ⟨Blk.new w3 _ _, HM3.out.keep (below_new _ _)⟩
    obtain ⟨w4, hV⟩ : ∃ V, V = w3.alloc (.cells #[.int .i64 x.F, .int .i64 x.R, .int .i64 x.C, .slice D3 x.l.length c3] 24) := ⟨_, rfl⟩
    rw [← hV] at HS HB ⊢
    obtain ⟨p6, hp⟩ : ∃ p, p = w3.heap.size := ⟨_, rfl⟩
    rw [← hp] at HB ⊢
    have HQ6w4 := HB
    clear hV hp HB HM3
    have hb := HS.out
    clear HS
    have HLw4 := hideIt (ls6 HLw3.out hb)
    have HQ2w4 := hideIt (HQ2w3.out.keep hb)
    have HQ3w4 := hideIt (HQ3w3.out.keep hb)
    clear hb HQ2w3 HQ3w3  HLw3
    go_wp2_with (first | ((with_reducible refine at_load ?_); refine wpList_ldG (by kernel_rfl) (.tmp 2) rfl w.heap.size _ _ _ _ rfl HQ2w4.out.box ?_) | ((with_reducible refine at_load ?_); refine wpList_ldG (by kernel_rfl) (.tmp 3) rfl (w.heap.size + 1) _ _ _ _ rfl HQ3w4.out.box ?_))
    refine (rsolve_any a0 a1 _ _ _ _ w4 HQ2w4.out.mat HQ3w4.out.mat).mono ?_
    rintro e w5 hres
    rw [HR1.out] at hres
    obtain ⟨D5, c5, rfl, hin, hb⟩ := hres.min2
    have HM5 := hideIt hin
    clear hin hres
    have HLw5 := hideIt (ls6 HLw4.out hb)
    have HQ2w5 := hideIt (HQ2w4.out.keep hb)
    have HQ3w5 := hideIt (HQ3w4.out.keep hb)
    have HQ6w5 := hideIt (HQ6w4.out.keep hb)
    clear hb HQ2w4 HQ3w4 HQ6w4  HLw4
    go_upto_region 6 with fail
    have HS := hideIt (below_new w5 (.cells #[.int .i64 x.F, .int .i64 x.R, .int .i64 x.C, .slice D5 x.l.length c5] 24))
    have HB : Hid (BM (w5.alloc (.cells #[.int .i64 x.F, .int .i64 x.R, .int .i64 x.C, .slice D5 x.l.length c5] 24)) w5.heap.size x D5 c5) := hideIt ⟨Blk.new w5 _ _, HM5.out.keep (below_new _ _)⟩
    obtain ⟨w6, hV⟩ : ∃ V, V = w5.alloc (.cells #[.int .i64 x.F, .int .i64 x.R, .int .i64 x.C, .slice D5 x.l.length c5] 24) := ⟨_, rfl⟩
    rw [← hV] at HS HB ⊢
    obtain ⟨p8, hp⟩ : ∃ p, p = w5.heap.size := ⟨_, rfl⟩
    rw [← hp] at HB ⊢
    have HQ8w6 := HB
    clear hV hp HB HM5
    have hb := HS.out
    clear HS
    have HLw6 := hideIt (ls6 HLw5.out hb)
    have HQ2w6 := hideIt (HQ2w5.out.keep hb)
    have HQ3w6 := hideIt (HQ3w5.out.keep hb)
    have HQ6w6 := hideIt (HQ6w5.out.keep hb)
    clear hb HQ2w5 HQ3w5 HQ6w5  HLw5
    go_wp2_with (first | ((with_reducible refine at_load ?_); refine wpList_ldG (by kernel_rfl) (.tmp 6) rfl p6 _ _ _ _ rfl HQ6w6.out.box ?_) | ((with_reducible refine at_load ?_); refine wpList_ldG (by kernel_rfl) (.tmp 8) rfl p8 _ _ _ _ rfl HQ8w6.out.box ?_))
    refine (rsame_any x x D3 D5 c3 c5 w6 HQ6w6.out.mat HQ8w6.out.mat (Nat.le_trans HLX.out (by decide))).mono ?_
    rintro e w7 ⟨rfl, hb⟩
    rw [sameM_self]
    have HLw7 := hideIt (ls6 HLw6.out hb)
    have HQ2w7 := hideIt (HQ2w6.out.keep hb)
    have HQ3w7 := hideIt (HQ3w6.out.keep hb)
    have HQ6w7 := hideIt (HQ6w6.out.keep hb)
    have HQ8w7 := hideIt (HQ8w6.out.keep hb)
    clear hb HQ2w6 HQ3w6 HQ6w6 HQ8w6  HLw6
    have hqe := int_neqF6 27 (a := e) (b := e) rfl
    by_cases he : e = 0
    · subst he
      have HX := hideIt (sol_mul HR1.out)
      have HLB := hideIt (vM_len (sol_cond HR1.out (by decide)).2.1)
      go_upto_region 9 with fail
      go_wp2_with (first | ((with_reducible refine at_load ?_); refine wpList_ldG (by kernel_rfl) (.tmp 2) rfl w.heap.size _ _ _ _ rfl HQ2w7.out.box ?_) | ((with_reducible refine at_load ?_); refine wpList_ldG (by kernel_rfl) (.tmp 6) rfl p6 _ _ _ _ rfl HQ6w7.out.box ?_))
      refine (mul6_any a0 x _ _ _ _ w7 (HT.out.keep HLw7.out) HQ2w7.out.mat HQ6w7.out.mat).mono ?_
      rintro e w8 hres
      rw [HX.out] at hres
      obtain ⟨D8, c8, rfl, hin, hb⟩ := hres.min2
      have HM8 := hideIt hin
      clear hin hres
      have HLw8 := hideIt (ls6 HLw7.out hb)
      have HQ2w8 := hideIt (HQ2w7.out.keep hb)
      have HQ3w8 := hideIt (HQ3w7.out.keep hb)
      have HQ6w8 := hideIt (HQ6w7.out.keep hb)
      have HQ8w8 := hideIt (HQ8w7.out.keep hb)
      clear hb HQ2w7 HQ3w7 HQ6w7 HQ8w7  HLw7
      go_upto_region 10 with fail
      have HS := hideIt (below_new w8 (.cells #[.int .i64 a1.F, .int .i64 a1.R, .int .i64 a1.C, .slice D8 a1.l.length c8] 24))
      have HB : Hid (BM (w8.alloc (.cells #[.int .i64 a1.F, .int .i64 a1.R, .int .i64 a1.C, .slice D8 a1.l.length c8] 24)) w8.heap.size a1 D8 c8) := hideIt ⟨Blk.new w8 _ _, HM8.out.keep (below_new _ _)⟩
      obtain ⟨w9, hV⟩ : ∃ V, V = w8.alloc (.cells #[.int .i64 a1.F, .int .i64 a1.R, .int .i64 a1.C, .slice D8 a1.l.length c8] 24) := ⟨_, rfl⟩
      rw [← hV] at HS HB ⊢
      obtain ⟨p10, hp⟩ : ∃ p, p = w8.heap.size := ⟨_, rfl⟩
      rw [← hp] at HB ⊢
      have HQ10w9 := HB
      clear hV hp HB HM8
      have hb := HS.out
      clear HS
      have HLw9 := hideIt (ls6 HLw8.out hb)
      have HQ2w9 := hideIt (HQ2w8.out.keep hb)
      have HQ3w9 := hideIt (HQ3w8.out.keep hb)
      have HQ6w9 := hideIt (HQ6w8.out.keep hb)
      have HQ8w9 := hideIt (HQ8w8.out.keep hb)
      clear hb HQ2w8 HQ3w8 HQ6w8 HQ8w8  HLw8
      go_wp2_with fail
      refine (sanity_any w9 (HT.out.keep HLw9.out)).mono ?_
      rintro e w10 ⟨rfl, hb⟩
      have HLw10 := hideIt (ls6 HLw9.out hb)
      have HQ2w10 := hideIt (HQ2w9.out.keep hb)
      have HQ3w10 := hideIt (HQ3w9.out.keep hb)
      have HQ6w10 := hideIt (HQ6w9.out.keep hb)
      have HQ8w10 := hideIt (HQ8w9.out.keep hb)
      have HQ10w10 := hideIt (HQ10w9.out.keep hb)
      clear hb HQ2w9 HQ3w9 HQ6w9 HQ8w9 HQ10w9  HLw9
      go_wp2_with (first | ((with_reducible refine at_load ?_); refine wpList_ldG (by kernel_rfl) (.tmp 10) rfl p10 _ _ _ _ rfl HQ10w10.out.box ?_) | ((with_reducible refine at_load ?_); refine wpList_ldG (by kernel_rfl) (.tmp 3) rfl (w.heap.size + 1) _ _ _ _ rfl HQ3w10.out.box ?_))
      refine (rsame_any a1 a1 D8 A1 c8 c1 w10 HQ10w10.out.mat HQ3w10.out.mat (Nat.le_trans HLB.out (by decide))).mono ?_
      rintro e w11 ⟨rfl, hb⟩
      rw [sameM_self]
      have HLw11 := hideIt (ls6 HLw10.out hb)
      have HQ2w11 := hideIt (HQ2w10.out.keep hb)
      have HQ3w11 := hideIt (HQ3w10.out.keep hb)
      have HQ6w11 := hideIt (HQ6w10.out.keep hb)
      have HQ8w11 := hideIt (HQ8w10.out.keep hb)
      have HQ10w11 := hideIt (HQ10w10.out.keep hb)
      clear hb HQ2w10 HQ3w10 HQ6w10 HQ8w10 HQ10w10  HLw10
      go_wp2_with fail
      go_ret
      exact ⟨rfl, HLw11.out⟩
    · have hq0 := int_eqlF 27 he
      clear he
      by_cases h12 : e = 12
      · subst h12
        have hs1 : a0.C ≤ 12 := (of_decide_eq_true (HFIT.out (by trivial)).1).2.1
        have hs2 : a1.C ≤ 12 := (of_decide_eq_true (HFIT.out (by trivial)).2).2.1
        obtain ⟨_, _, hgt⟩ := sol_stack hs1 hs2 HR1.out
        have hl0 := trM_len a0
        have hl1 := trM_len a1
        obtain ⟨y, ey, hy⟩ : ∃ p e, trM a0 = (p, e) := ⟨_, _, rfl⟩
        obtain ⟨z, ez, hz⟩ : ∃ p e, trM a1 = (p, e) := ⟨_, _, rfl⟩
        have hb := sol_rows hs1 hs2 HR1.out
        rw [hy, hz] at hgt hb
        rw [hy] at hl0
        rw [hz] at hl1
        have hgt : rankM ⟨a0.F, y.R + z.R, y.C, y.l ++ z.l⟩ > rankM a0 := hgt
        have hadd : binOp .add 3 (.int .i64 y.R) (.int .i64 z.R) = pure (.int .i64 (y.R + z.R)) := add_small 3 hb.1 hb.2
        obtain ⟨k0, hk0⟩ : ∃ k, rankM a0 = k := ⟨_, rfl⟩
        obtain ⟨k1, hk1⟩ : ∃ k, rankM ⟨a0.F, y.R + z.R, y.C, y.l ++ z.l⟩ = k := ⟨_, rfl⟩
        rw [hk0, hk1] at hgt
        have HK0 := hideIt hk0
        have HK1 := hideIt hk1
        have HY := hideIt hy
        have HZ := hideIt hz
        have HSL := hideIt (@List.length_append _ y.l z.l)
        have HLY := hideIt (show y.l.length ≤ 1024 from hl0)
        have HLZ := hideIt (show z.l.length ≤ 1024 from hl1)
        have HADD := hideIt hadd
        have HGT := hideIt hgt
        clear hs1 hs2 hl0 hl1 hb hy hz hk0 hk1 hadd hgt
        go_upto_region 13 with fail
        go_wp2_with (first | ((with_reducible refine at_load ?_); refine wpList_ldG (by kernel_rfl) (.tmp 2) rfl w.heap.size _ _ _ _ rfl HQ2w7.out.box ?_))
        refine (transp_any a0 _ _ w7 (HT.out.keep HLw7.out) HQ2w7.out.mat).mono ?_
        rintro e w8 hres
        rw [HY.out] at hres
        obtain ⟨D8, c8, rfl, hin, hb⟩ := hres.min2
        have HM8 := hideIt hin
        clear hin hres
        have HLw8 := hideIt (ls6 HLw7.out hb)
        have HQ2w8 := hideIt (HQ2w7.out.keep hb)
        have HQ3w8 := hideIt (HQ3w7.out.keep hb)
        have HQ6w8 := hideIt (HQ6w7.out.keep hb)
        have HQ8w8 := hideIt (HQ8w7.out.keep hb)
        clear hb HQ2w7 HQ3w7 HQ6w7 HQ8w7  HLw7
        go_upto_region 14 with fail
        have HS := hideIt (below_new w8 (.cells #[.int .i64 y.F, .int .i64 y.R, .int .i64 y.C, .slice D8 y.l.length c8] 24))
        have HB : Hid (BM (w8.alloc (.cells #[.int .i64 y.F, .int .i64 y.R, .int .i64 y.C, .slice D8 y.l.length c8] 24)) w8.heap.size y D8 c8) := hideIt ⟨Blk.new w8 _ _, HM8.out.keep (below_new _ _)⟩
        obtain ⟨w9, hV⟩ : ∃ V, V = w8.alloc (.cells #[.int .i64 y.F, .int .i64 y.R, .int .i64 y.C, .slice D8 y.l.length c8] 24) := ⟨_, rfl⟩
        rw [← hV] at HS HB ⊢
        obtain ⟨p12, hp⟩ : ∃ p, p = w8.heap.size := ⟨_, rfl⟩
        rw [← hp] at HB ⊢
        have HQ12w9 := HB
        clear hV hp HB HM8
        have hb := HS.out
        clear HS
        have HLw9 := hideIt (ls6 HLw8.out hb)
        have HQ2w9 := hideIt (HQ2w8.out.keep hb)
        have HQ3w9 := hideIt (HQ3w8.out.keep hb)
        have HQ6w9 := hideIt (HQ6w8.out.keep hb)
        have HQ8w9 := hideIt (HQ8w8.out.keep hb)
        clear hb HQ2w8 HQ3w8 HQ6w8 HQ8w8  HLw8
        go_wp2_with (first | ((with_reducible refine at_load ?_); refine wpList_ldG (by kernel_rfl) (.tmp 3) rfl (w.heap.size + 1) _ _ _ _ rfl HQ3w9.out.box ?_))
        refine (transp_any a1 _ _ w9 (HT.out.keep HLw9.out) HQ3w9.out.mat).mono ?_
        rintro e w10 hres
        rw [HZ.out] at hres
        obtain ⟨D10, c10, rfl, hin, hb⟩ := hres.min2
        have HM10 := hideIt hin
        clear hin hres
        have HLw10 := hideIt (ls6 HLw9.out hb)
        have HQ2w10 := hideIt (HQ2w9.out.keep hb)
        have HQ3w10 := hideIt (HQ3w9.out.keep hb)
        have HQ6w10 := hideIt (HQ6w9.out.keep hb)
        have HQ8w10 := hideIt (HQ8w9.out.keep hb)
        have HQ12w10 := hideIt (HQ12w9.out.keep hb)
        clear hb HQ2w9 HQ3w9 HQ6w9 HQ8w9 HQ12w9  HLw9
        go_upto_region 15 with fail
        have HS := hideIt (below_new w10 (.cells #[.int .i64 z.F, .int .i64 z.R, .int .i64 z.C, .slice D10 z.l.length c10] 24))
        have HB : Hid (BM (w10.alloc (.cells #[.int .i64 z.F, .int .i64 z.R, .int .i64 z.C, .slice D10 z.l.length c10] 24)) w10.heap.size z D10 c10) := hideIt ⟨Blk.new w10 _ _, HM10.out.keep (below_new _ _)⟩
        obtain ⟨w11, hV⟩ : ∃ V, V = w10.alloc (.cells #[.int .i64 z.F, .int .i64 z.R, .int .i64 z.C, .slice D10 z.l.length c10] 24) := ⟨_, rfl⟩
        rw [← hV] at HS HB ⊢
        obtain ⟨p14, hp⟩ : ∃ p, p = w10.heap.size := ⟨_, rfl⟩
        rw [← hp] at HB ⊢
        have HQ14w11 := HB
        clear hV hp HB HM10
        have hb := HS.out
        clear HS
        have HLw11 := hideIt (ls6 HLw10.out hb)
        have HQ2w11 := hideIt (HQ2w10.out.keep hb)
        have HQ3w11 := hideIt (HQ3w10.out.keep hb)
        have HQ6w11 := hideIt (HQ6w10.out.keep hb)
        have HQ8w11 := hideIt (HQ8w10.out.keep hb)
        have HQ12w11 := hideIt (HQ12w10.out.keep hb)
        clear hb HQ2w10 HQ3w10 HQ6w10 HQ8w10 HQ12w10  HLw10
        have cf123 := HQ12w11.out.box.cell 3
        obtain ⟨i0, hi, hz0, hz1, hz2⟩ := info_parts (show (Tryd.prog.info? 3).map (fun i => (i.zero, i.size, i.bytes)) = some (some (Value.int .i64 0), 1, 8) by kernel_rfl)
        have HIN := hideIt (And.intro hi (And.intro hz0 (And.intro hz1 hz2)))
        clear hi hz0 hz1 hz2
        go_upto_region 17 with ((with_reducible refine at_append ?_); refine wpList_app rfl (.tmp 78) (.tmp 80) 22 rfl w11.heap.size 3 i0 (.int .i64 0) 1 8 Tryd.underlying22 HIN.out.1 HIN.out.2.1 HIN.out.2.2.1 HIN.out.2.2.2 rfl (by decide) (.slice none 0 0) 0 [] rfl (World.ownsRow_nil _ _ _ _) w11.heap.size D8 y.l.length c8 (y.l.map iv) rfl HQ12w11.out.mat.sl (fun u hu => iv_one _ u hu) (by have := HLY.out; unfold maxLen; omega) (by have := HLY.out; omega) (Nat.le_refl _) ?_; intro v1 w12 ho1 hb1; have HO1 := own_is (n' := y.l.length) (xs' := y.l.map iv) ho1 (Nat.zero_add _) rfl; have HB1 := hideIt hb1; clear ho1 hb1; obtain ⟨E1, ce1, rfl, _, _⟩ := own_form HO1.out)
        clear cf123
        have HQZ := hideIt (HQ14w11.out.keep HB1.out)
        have cz := HQZ.out.box.cell 3
        go_upto_region 18 with ((with_reducible refine at_append ?_); refine wpList_app rfl (.tmp 82) (.tmp 84) 22 rfl w11.heap.size 3 i0 (.int .i64 0) 1 8 Tryd.underlying22 HIN.out.1 HIN.out.2.1 HIN.out.2.2.1 HIN.out.2.2.2 rfl (by decide) (.slice E1 y.l.length ce1) y.l.length (y.l.map iv) rfl HO1.out w12.heap.size D10 z.l.length c10 (z.l.map iv) rfl HQZ.out.mat.sl (fun u hu => iv_one _ u hu) (by have := HLY.out; have := HLZ.out; unfold maxLen; omega) (by have := HLY.out; have := HLZ.out; omega) HB1.out.size ?_; intro v2 w13 ho2 hb2; have HO2 := own_is (n' := (y.l ++ z.l).length) (xs' := (y.l ++ z.l).map iv) ho2 HSL.out.symm List.map_append.symm; have HB2 := hideIt hb2; clear ho2 hb2; obtain ⟨E2, ce2, rfl, _, _⟩ := own_form HO2.out)
        have hb := HB1.out.trans HB2.out
        have HM_S := hideIt (min_own (w := w11) (a := ⟨a0.F, y.R + z.R, y.C, y.l ++ z.l⟩) rfl HO2.out)
        have hadd := HADD.out
        have hgt := HGT.out
        clear cz HQZ HO1 HO2 HB1 HB2 HIN
        have HLw13 := hideIt (ls6 HLw11.out hb)
        have HQ2w13 := hideIt (HQ2w11.out.keep hb)
        have HQ3w13 := hideIt (HQ3w11.out.keep hb)
        have HQ6w13 := hideIt (HQ6w11.out.keep hb)
        have HQ8w13 := hideIt (HQ8w11.out.keep hb)
        have HQ12w13 := hideIt (HQ12w11.out.keep hb)
        have HQ14w13 := hideIt (HQ14w11.out.keep hb)
        clear hb HQ2w11 HQ3w11 HQ6w11 HQ8w11 HQ12w11 HQ14w11  HLw11
        go_upto_region 18 with fail
        have HHK : Hid (∀ W' bt, Below w13.heap.size w13 W' → Hooks [(12, fun W => W.cell? ⟨w.heap.size, 0, none⟩ = some (.int .i64 a0.F)), (8, fun W => W.cell? ⟨p12, 1, none⟩ = some (.int .i64 y.R)), (8, fun W => W.cell? ⟨p14, 1, none⟩ = some (.int .i64 z.R)), (12, fun W => W.cell? ⟨p12, 2, none⟩ = some (.int .i64 y.C)), (15, fun W => Blk W w.heap.size 24 (mtC a0.F a0.R a0.C (.slice A0 a0.l.length c0)))] bt W') := hideIt (fun W' bt hb' => Hooks.add ((HQ2w13.out.box.kept hb' HQ2w13.out.box.lt).cell 0) (Hooks.add ((HQ12w13.out.box.kept hb' HQ12w13.out.box.lt).cell 1) (Hooks.add ((HQ14w13.out.box.kept hb' HQ14w13.out.box.lt).cell 1) (Hooks.add ((HQ12w13.out.box.kept hb' HQ12w13.out.box.lt).cell 2) (Hooks.add (HQ2w13.out.box.kept hb' HQ2w13.out.box.lt) (Hooks.nil _ _))))))
        have hb : Below w13.heap.size w13 w13.drew := (Below.refl _ _).drew
        refine loads_begin_n 19 [(12, fun W => W.cell? ⟨w.heap.size, 0, none⟩ = some (.int .i64 a0.F)), (8, fun W => W.cell? ⟨p12, 1, none⟩ = some (.int .i64 y.R)), (8, fun W => W.cell? ⟨p14, 1, none⟩ = some (.int .i64 z.R)), (12, fun W => W.cell? ⟨p12, 2, none⟩ = some (.int .i64 y.C)), (15, fun W => Blk W w.heap.size 24 (mtC a0.F a0.R a0.C (.slice A0 a0.l.length c0)))] rfl (by kernel_rfl) ?_
        generalize w13.drew = w14 at *
        have HDw14 := hideIt hb
        have HLw14 := hideIt (ls6 HLw13.out hb)
        have HQ2w14 := hideIt (HQ2w13.out.keep hb)
        have HQ3w14 := hideIt (HQ3w13.out.keep hb)
        have HQ6w14 := hideIt (HQ6w13.out.keep hb)
        have HQ8w14 := hideIt (HQ8w13.out.keep hb)
        have HQ12w14 := hideIt (HQ12w13.out.keep hb)
        have HQ14w14 := hideIt (HQ14w13.out.keep hb)
        have HM_Sw14 := hideIt (HM_S.out.keep hb)
        clear hb HQ2w13 HQ3w13 HQ6w13 HQ8w13 HQ12w13 HQ14w13 HM_S HLw13
        refine wpAnyL_one (o := ⟨some 86, _, _, _, _, _⟩) 0 (by kernel_rfl) rfl (fun K hK => ?_)
        go_wp2_with fail
        refine (sanity_any w14 (HT.out.keep HLw14.out)).mono ?_
        rintro e w15 ⟨rfl, hb⟩
        have HDw15 := hideIt (ls6 HDw14.out hb)
        have HLw15 := hideIt (ls6 HLw14.out hb)
        have HQ2w15 := hideIt (HQ2w14.out.keep hb)
        have HQ3w15 := hideIt (HQ3w14.out.keep hb)
        have HQ6w15 := hideIt (HQ6w14.out.keep hb)
        have HQ8w15 := hideIt (HQ8w14.out.keep hb)
        have HQ12w15 := hideIt (HQ12w14.out.keep hb)
        have HQ14w15 := hideIt (HQ14w14.out.keep hb)
        have HM_Sw15 := hideIt (HM_Sw14.out.keep hb)
        clear hb HQ2w14 HQ3w14 HQ6w14 HQ8w14 HQ12w14 HQ14w14 HM_Sw14 HLw14
        go_wp2_with fail
        refine hK _ _ (HHK.out _ _ HDw15.out) ?_
        clear hK K
        refine wpAnyL_move (oi := ⟨some 87, _, _, _, _, _⟩) 1 ?_ rfl (by kernel_rfl) (by kernel_rfl) (by kernel_rfl) (by kernel_rfl) (fun _ _ _ h => h) (by kernel_rfl) ?_ (HHK.out _ _ HDw15.out) ?_
        rotate_left
        · intro W'; go_simp; first | done | with_reducible rfl
        try simp only [Act.put]
        try simp only [List.setIfInBounds_toArray]
        try simp only [List.set_cons_succ]
        try simp only [List.set_cons_zero]
        refine wpAnyL_move (oi := ⟨some 88, _, _, _, _, _⟩) 2 ?_ rfl (by kernel_rfl) (by kernel_rfl) (by kernel_rfl) (by kernel_rfl) (fun _ _ _ h => h) (by kernel_rfl) ?_ (HHK.out _ _ HDw15.out) ?_
        rotate_left
        · intro W'; go_simp; first | done | with_reducible rfl
        try simp only [Act.put]
        try simp only [List.setIfInBounds_toArray]
        try simp only [List.set_cons_succ]
        try simp only [List.set_cons_zero]
        refine wpAnyL_take (oi := ⟨some 89, _, _, _, _, _⟩) 3 12 (.int .i64 a0.F) _ rfl (by kernel_rfl) (by kernel_rfl) (by kernel_rfl) (by kernel_rfl) (by kernel_rfl) (by kernel_rfl) (.head _) (fun _ _ _ h => h) (by kernel_rfl) (fun W' hW' => by have h := hW'; simp [execOp, h, go_sem]) (HHK.out _ _ HDw15.out) ?_
        try simp only [Act.put]
        try simp only [List.setIfInBounds_toArray]
        try simp only [List.set_cons_succ]
        try simp only [List.set_cons_zero]
        refine wpAnyL_move (oi := ⟨some 90, _, _, _, _, _⟩) 4 ?_ rfl (by kernel_rfl) (by kernel_rfl) (by kernel_rfl) (by kernel_rfl) (fun _ _ _ h => h) (by kernel_rfl) ?_ (HHK.out _ _ HDw15.out) ?_
        rotate_left
        · intro W'; go_simp; first | done | with_reducible rfl
        try simp only [Act.put]
        try simp only [List.setIfInBounds_toArray]
        try simp only [List.set_cons_succ]
        try simp only [List.set_cons_zero]
        refine wpAnyL_take (oi := ⟨some 91, _, _, _, _, _⟩) 5 8 (.int .i64 y.R) _ rfl (by kernel_rfl) (by kernel_rfl) (by kernel_rfl) (by kernel_rfl) (by kernel_rfl) (by kernel_rfl) (.tail _ (.head _)) (fun _ _ _ h => h) (by kernel_rfl) (fun W' hW' => by have h := hW'; simp [execOp, h, go_sem]) (HHK.out _ _ HDw15.out) ?_
        try simp only [Act.put]
        try simp only [List.setIfInBounds_toArray]
        try simp only [List.set_cons_succ]
        try simp only [List.set_cons_zero]
        refine wpAnyL_move (oi := ⟨some 92, _, _, _, _, _⟩) 6 ?_ rfl (by kernel_rfl) (by kernel_rfl) (by kernel_rfl) (by kernel_rfl) (fun _ _ _ h => h) (by kernel_rfl) ?_ (HHK.out _ _ HDw15.out) ?_
        rotate_left
        · intro W'; go_simp; first | done | with_reducible rfl
        try simp only [Act.put]
        try simp only [List.setIfInBounds_toArray]
        try simp only [List.set_cons_succ]
        try simp only [List.set_cons_zero]
        refine wpAnyL_take (oi := ⟨some 93, _, _, _, _, _⟩) 7 8 (.int .i64 z.R) _ rfl (by kernel_rfl) (by kernel_rfl) (by kernel_rfl) (by kernel_rfl) (by kernel_rfl) (by kernel_rfl) (.tail _ (.tail _ (.head _))) (fun _ _ _ h => h) (by kernel_rfl) (fun W' hW' => by have h := hW'; simp [execOp, h, go_sem]) (HHK.out _ _ HDw15.out) ?_
        try simp only [Act.put]
        try simp only [List.setIfInBounds_toArray]
        try simp only [List.set_cons_succ]
        try simp only [List.set_cons_zero]
        refine wpAnyL_move (oi := ⟨some 95, _, _, _, _, _⟩) 9 ?_ rfl (by kernel_rfl) (by kernel_rfl) (by kernel_rfl) (by kernel_rfl) (fun _ _ _ h => h) (by kernel_rfl) ?_ (HHK.out _ _ HDw15.out) ?_
        rotate_left
        · intro W'; go_simp; first | done | with_reducible rfl
        try simp only [Act.put]
        try simp only [List.setIfInBounds_toArray]
        try simp only [List.set_cons_succ]
        try simp only [List.set_cons_zero]
        refine wpAnyL_take (oi := ⟨some 96, _, _, _, _, _⟩) 10 12 (.int .i64 y.C) _ rfl (by kernel_rfl) (by kernel_rfl) (by kernel_rfl) (by kernel_rfl) (by kernel_rfl) (by kernel_rfl) (.tail _ (.tail _ (.tail _ (.head _)))) (fun _ _ _ h => h) (by kernel_rfl) (fun W' hW' => by have h := hW'; simp [execOp, h, go_sem]) (HHK.out _ _ HDw15.out) ?_
        try simp only [Act.put]
        try simp only [List.setIfInBounds_toArray]
        try simp only [List.set_cons_succ]
        try simp only [List.set_cons_zero]
        refine wpAnyL_move (oi := ⟨some 97, _, _, _, _, _⟩) 11 ?_ rfl (by kernel_rfl) (by kernel_rfl) (by kernel_rfl) (by kernel_rfl) (fun _ _ _ h => h) (by kernel_rfl) ?_ (HHK.out _ _ HDw15.out) ?_
        rotate_left
        · intro W'; go_simp; first | done | with_reducible rfl
        try simp only [Act.put]
        try simp only [List.setIfInBounds_toArray]
        try simp only [List.set_cons_succ]
        try simp only [List.set_cons_zero]
        refine wpAnyL_take (oi := ⟨some 100, _, _, _, _, _⟩) 14 15 (mtV a0.F a0.R a0.C (.slice A0 a0.l.length c0)) _ rfl (by kernel_rfl) (by kernel_rfl) (by kernel_rfl) (by kernel_rfl) (by kernel_rfl) (by kernel_rfl) (.tail _ (.tail _ (.tail _ (.tail _ (.head _))))) (fun _ _ _ h => h) (by kernel_rfl) (fun W' hW' => exec_ld rfl (ld_mt hW')) (HHK.out _ _ HDw15.out) ?_
        try simp only [Act.put]
        try simp only [List.setIfInBounds_toArray]
        try simp only [List.set_cons_succ]
        try simp only [List.set_cons_zero]
        refine wpAnyL_one (o := ⟨some 94, _, _, _, _, _⟩) 8 (by kernel_rfl) rfl (fun K hK => ?_)
        go_wp2_with fail
        refine hK _ _ (HHK.out _ _ HDw15.out) ?_
        clear hK K
        refine wpAnyL_one (o := ⟨some 98, _, _, _, _, _⟩) 12 (by kernel_rfl) rfl (fun K hK => ?_)
        go_wp2_with fail
        refine (of_any _ _ _ _ _ _ _).mono ?_
        rintro e w16 ⟨rfl, hb⟩
        have HDw16 := hideIt (ls6 HDw15.out hb)
        have HLw16 := hideIt (ls6 HLw15.out hb)
        have HQ2w16 := hideIt (HQ2w15.out.keep hb)
        have HQ3w16 := hideIt (HQ3w15.out.keep hb)
        have HQ6w16 := hideIt (HQ6w15.out.keep hb)
        have HQ8w16 := hideIt (HQ8w15.out.keep hb)
        have HQ12w16 := hideIt (HQ12w15.out.keep hb)
        have HQ14w16 := hideIt (HQ14w15.out.keep hb)
        have HM_Sw16 := hideIt (HM_Sw15.out.keep hb)
        clear hb HQ2w15 HQ3w15 HQ6w15 HQ8w15 HQ12w15 HQ14w15 HM_Sw15 HLw15
        go_wp2_with fail
        refine hK _ _ (HHK.out _ _ HDw16.out) ?_
        clear hK K
        refine wpAnyL_one (o := ⟨some 99, _, _, _, _, _⟩) 13 (by kernel_rfl) rfl (fun K hK => ?_)
        go_wp2_with fail
        rw [← HSL.out]
        refine (rank_any ⟨a0.F, y.R + z.R, y.C, y.l ++ z.l⟩ _ _ w16 (HT.out.keep HLw16.out) HM_Sw16.out).mono ?_
        rintro e w17 ⟨rfl, hb⟩
        rw [HK1.out]
        have HDw17 := hideIt (ls6 HDw16.out hb)
        have HLw17 := hideIt (ls6 HLw16.out hb)
        have HQ2w17 := hideIt (HQ2w16.out.keep hb)
        have HQ3w17 := hideIt (HQ3w16.out.keep hb)
        have HQ6w17 := hideIt (HQ6w16.out.keep hb)
        have HQ8w17 := hideIt (HQ8w16.out.keep hb)
        have HQ12w17 := hideIt (HQ12w16.out.keep hb)
        have HQ14w17 := hideIt (HQ14w16.out.keep hb)
        have HM_Sw17 := hideIt (HM_Sw16.out.keep hb)
        clear hb HQ2w16 HQ3w16 HQ6w16 HQ8w16 HQ12w16 HQ14w16 HM_Sw16 HLw16
        go_wp2_with fail
        refine hK _ _ (HHK.out _ _ HDw17.out) ?_
        clear hK K
        refine wpAnyL_one (o := ⟨some 101, _, _, _, _, _⟩) 15 (by kernel_rfl) rfl (fun K hK => ?_)
        go_wp2_with fail
        refine (rank_any a0 _ _ w17 (HT.out.keep HLw17.out) HQ2w17.out.mat).mono ?_
        rintro e w18 ⟨rfl, hb⟩
        rw [HK0.out]
        have HDw18 := hideIt (ls6 HDw17.out hb)
        have HLw18 := hideIt (ls6 HLw17.out hb)
        have HQ2w18 := hideIt (HQ2w17.out.keep hb)
        have HQ3w18 := hideIt (HQ3w17.out.keep hb)
        have HQ6w18 := hideIt (HQ6w17.out.keep hb)
        have HQ8w18 := hideIt (HQ8w17.out.keep hb)
        have HQ12w18 := hideIt (HQ12w17.out.keep hb)
        have HQ14w18 := hideIt (HQ14w17.out.keep hb)
        have HM_Sw18 := hideIt (HM_Sw17.out.keep hb)
        clear hb HQ2w17 HQ3w17 HQ6w17 HQ8w17 HQ12w17 HQ14w17 HM_Sw17 HLw17
        go_wp2_with fail
        refine hK _ _ (HHK.out _ _ HDw18.out) ?_
        clear hK K
        refine loads_tail 16 (by kernel_rfl) (by kernel_rfl) (by kernel_rfl) (by kernel_rfl) ?_
        simp only [List.drop_succ_cons, List.drop_zero]
        go_wp2_with fail
        go_ret
        exact ⟨rfl, HLw18.out⟩
      · have hq1 := int_neqT6 27 h12
        clear h12
        go_wp2_with fail
        refine (sanity_any w7 (HT.out.keep HLw7.out)).mono ?_
        rintro e w8 ⟨rfl, hb⟩
        have HLw8 := hideIt (ls6 HLw7.out hb)
        have HQ2w8 := hideIt (HQ2w7.out.keep hb)
        have HQ3w8 := hideIt (HQ3w7.out.keep hb)
        have HQ6w8 := hideIt (HQ6w7.out.keep hb)
        have HQ8w8 := hideIt (HQ8w7.out.keep hb)
        clear hb HQ2w7 HQ3w7 HQ6w7 HQ8w7  HLw7
        go_wp2_with fail
        go_ret
        exact ⟨rfl, HLw8.out⟩

end Go.Proofs.YtodmcojcmihooaaDoor.matrixSolves
