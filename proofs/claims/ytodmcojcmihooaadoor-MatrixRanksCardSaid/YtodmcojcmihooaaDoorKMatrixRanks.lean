/-
  The walk of the law: The rank of a valid matrix is that of its transpose and the number of its independent rows, which have this rank by themselves; the rank of a product is at most that of each factor.
-/
import Derived.Test.YtodmcojcmihooaaDoorMatJ
import Derived.Test.YtodmcojcmihooaaDoorMatSan
import Derived.Test.YtodmcojcmihooaaDoorArgM
namespace Go.Proofs.YtodmcojcmihooaaDoor.matrixRanks
open Go.RowKit
set_option linter.unusedVariables false

set_option maxHeartbeats 4000000 in
set_option maxRecDepth 100000 in
theorem walk (a0 : Mt) (A0 : Option Addr) (c0 : Nat) (a1 : Mt) (A1 : Option Addr) (c1 : Nat) (w : World) (x0 : MIn w a0 A0 c0) (x1 : MIn w a1 A1 c1) (T1 : Tabs w) :
    Calls Tryd.prog 8 #[mtV a0.F a0.R a0.C (.slice A0 a0.l.length c0), mtV a1.F a1.R a1.C (.slice A1 a1.l.length c1)] w fun e w' => e = .returned (.bool true) ∧ Below w.heap.size w w' := by
  obtain ⟨q, g, hr1⟩ : ∃ p e, mulM a0 a1 = (p, e) := ⟨_, _, rfl⟩
  have HR1 := hideIt hr1
  clear hr1
  have HT := hideIt T1
  clear T1
  obtain ⟨W0, hW0⟩ : ∃ W, W = ((w.alloc (.cells #[.int .i64 a0.F, .int .i64 a0.R, .int .i64 a0.C, .slice A0 a0.l.length c0] 24)).alloc (.cells #[.int .i64 a1.F, .int .i64 a1.R, .int .i64 a1.C, .slice A1 a1.l.length c1] 24)) := ⟨_, rfl⟩
  have HL0 : Hid (Below w.heap.size w W0) := hideIt (by rw [hW0]; exact (((Below.refl _ w).alloc (Nat.le_refl _) _).alloc (by simp; try omega) _))
  have HB2 : Blk W0 w.heap.size 24 (mtC a0.F a0.R a0.C (.slice A0 a0.l.length c0)) := by
    rw [hW0]
    have h := Blk.new w 24 (mtC a0.F a0.R a0.C (.slice A0 a0.l.length c0))
    exact (h.alloc _)
  have HQ2W0 : Hid (BM W0 w.heap.size a0 A0 c0) := hideIt ⟨HB2, x0.keep HL0.out⟩
  have HB3 : Blk W0 (w.heap.size + 1) 24 (mtC a1.F a1.R a1.C (.slice A1 a1.l.length c1)) := by
    rw [hW0]
    have h := Blk.new (w.alloc (.cells #[.int .i64 a0.F, .int .i64 a0.R, .int .i64 a0.C, .slice A0 a0.l.length c0] 24)) 24 (mtC a1.F a1.R a1.C (.slice A1 a1.l.length c1))
    simp only [World.size_alloc] at h
    exact h
  have HQ3W0 : Hid (BM W0 (w.heap.size + 1) a1 A1 c1) := hideIt ⟨HB3, x1.keep HL0.out⟩
  have HW0 := hideIt hW0
  clear hW0 HB2 HB3 x0 x1
  go_enter Tryd.func8, Tryd.ntmps8
  go_upto_region 1 with fail
  rw [← HW0.out]
  clear HW0
  go_upto_region 1 with fail
  go_cut [5] (fun sv W => ∃ ok : Bool, sv = .bool ok ∧ Aside ((ok = true → smallM a0 = true ∧ smallM a1 = true ∧ vM a0 = true) ∧ Below W0.heap.size W0 W))
  case first =>
    have HS0 := hideIt (Below.refl W0.heap.size W0)
    go_wp2_with (first | ((with_reducible refine at_load ?_); refine wpList_ldG (by kernel_rfl) (.tmp 2) rfl w.heap.size _ _ _ _ rfl HQ2W0.out.box ?_))
    refine (small_any a0 A0 c0 W0).mono ?_
    rintro e w1 ⟨rfl, hb⟩
    have HSX := hideIt (ls6 HS0.out hb)
    have HLw1 := hideIt (ls6 HL0.out hb)
    have HQ2w1 := hideIt (HQ2W0.out.keep hb)
    have HQ3w1 := hideIt (HQ3W0.out.keep hb)
    clear hb HQ2W0 HQ3W0  HL0
    cases h0 : smallM a0
    · go_wp2_with fail
      go_meet
      exact ⟨_, rfl, ⟨(fun h => Bool.noConfusion h), HSX.out⟩⟩
    · go_wp2_with (first | ((with_reducible refine at_load ?_); refine wpList_ldG (by kernel_rfl) (.tmp 3) rfl (w.heap.size + 1) _ _ _ _ rfl HQ3w1.out.box ?_))
      refine (small_any a1 A1 c1 w1).mono ?_
      rintro e w2 ⟨rfl, hb⟩
      have HSX := hideIt (ls6 HSX.out hb)
      have HLw2 := hideIt (ls6 HLw1.out hb)
      have HQ2w2 := hideIt (HQ2w1.out.keep hb)
      have HQ3w2 := hideIt (HQ3w1.out.keep hb)
      clear hb HQ2w1 HQ3w1  HLw1
      cases h1 : smallM a1
      · go_wp2_with fail
        go_meet
        exact ⟨_, rfl, ⟨(fun h => Bool.noConfusion h), HSX.out⟩⟩
      · go_wp2_with (first | ((with_reducible refine at_load ?_); refine wpList_ldG (by kernel_rfl) (.tmp 2) rfl w.heap.size _ _ _ _ rfl HQ2w2.out.box ?_))
        refine (rvalid_b HQ2w2.out.mat w2 (Below.refl _ _)).mono ?_
        rintro e w3 ⟨rfl, hb⟩
        have HSX := hideIt (ls6 HSX.out hb)
        have HLw3 := hideIt (ls6 HLw2.out hb)
        have HQ2w3 := hideIt (HQ2w2.out.keep hb)
        have HQ3w3 := hideIt (HQ3w2.out.keep hb)
        clear hb HQ2w2 HQ3w2  HLw2
        cases h2 : vM a0
        · go_wp2_with fail
          go_meet
          exact ⟨_, rfl, ⟨(fun h => Bool.noConfusion h), HSX.out⟩⟩
        · go_wp2_with fail
          go_meet
          exact ⟨_, rfl, ⟨(fun _ => ⟨h0, h1, h2⟩), HSX.out⟩⟩
  obtain ⟨ok, rfl, HOK⟩ := hcut
  have HFIT := hideIt HOK.out.1
  have hb := HOK.out.2
  clear HOK
  have HLwc := hideIt (ls6 HL0.out hb)
  have HQ2wc := hideIt (HQ2W0.out.keep hb)
  have HQ3wc := hideIt (HQ3W0.out.keep hb)
  clear hb HQ2W0 HQ3W0  HL0
  cases ok
  · go_wp2_with fail
    refine (sanity_any wc (HT.out.keep HLwc.out)).mono ?_
    rintro e w4 ⟨rfl, hb⟩
    have HLw4 := hideIt (ls6 HLwc.out hb)
    have HQ2w4 := hideIt (HQ2wc.out.keep hb)
    have HQ3w4 := hideIt (HQ3wc.out.keep hb)
    clear hb HQ2wc HQ3wc  HLwc
    go_wp2_with fail
    go_ret
    exact ⟨rfl, HLw4.out⟩
  · have hv := (HFIT.out (by trivial)).2.2
    obtain ⟨t, et, hr2⟩ : ∃ p e, trM a0 = (p, e) := ⟨_, _, rfl⟩
    obtain ⟨l, hl⟩ : ∃ l, indM a0 = l := ⟨_, rfl⟩
    obtain ⟨pk, ep, hr3⟩ : ∃ p e, pickM a0 l = (p, e) := ⟨_, _, rfl⟩
    have hrt := rank_tr6 hv
    have hri := rank_ind6 hv
    rw [hr2] at hrt
    rw [hl, hr3] at hri
    obtain rfl : et = 0 := hrt.1
    obtain rfl : ep = 0 := hri.2.1
    have HR2 := hideIt hr2
    have HR3 := hideIt hr3
    have HLI := hideIt hl
    have HK0 := hideIt (show rankM a0 = ((l.length : Nat) : Int) from hri.1.symm)
    have HK1 := hideIt (show rankM t = ((l.length : Nat) : Int) from hrt.2.trans hri.1.symm)
    have HK2 := hideIt (show rankM pk = ((l.length : Nat) : Int) from hri.2.2.trans hri.1.symm)
    have hqr := int_neqF6 3 (a := ((l.length : Nat) : Int)) (b := ((l.length : Nat) : Int)) rfl
    clear hv hrt hri hr2 hr3 hl
    go_upto_region 4 with fail
    go_wp2_with (first | ((with_reducible refine at_load ?_); refine wpList_ldG (by kernel_rfl) (.tmp 2) rfl w.heap.size _ _ _ _ rfl HQ2wc.out.box ?_))
    refine (rank_any a0 _ _ wc (HT.out.keep HLwc.out) HQ2wc.out.mat).mono ?_
    rintro e w4 ⟨rfl, hb⟩
    rw [HK0.out]
    have HLw4 := hideIt (ls6 HLwc.out hb)
    have HQ2w4 := hideIt (HQ2wc.out.keep hb)
    have HQ3w4 := hideIt (HQ3wc.out.keep hb)
    clear hb HQ2wc HQ3wc  HLwc
    go_upto_region 5 with fail
    go_wp2_with (first | ((with_reducible refine at_load ?_); refine wpList_ldG (by kernel_rfl) (.tmp 2) rfl w.heap.size _ _ _ _ rfl HQ2w4.out.box ?_))
    refine (transp_any a0 _ _ w4 (HT.out.keep HLw4.out) HQ2w4.out.mat).mono ?_
    rintro e w5 hres
    rw [HR2.out] at hres
    obtain ⟨D5, c5, rfl, hin, hb⟩ := hres.min2
    have HM5 := hideIt hin
    clear hin hres
    have HLw5 := hideIt (ls6 HLw4.out hb)
    have HQ2w5 := hideIt (HQ2w4.out.keep hb)
    have HQ3w5 := hideIt (HQ3w4.out.keep hb)
    clear hb HQ2w4 HQ3w4  HLw4
    go_upto_region 6 with fail
    have HS := hideIt (below_new w5 (.cells #[.int .i64 t.F, .int .i64 t.R, .int .i64 t.C, .slice D5 t.l.length c5] 24))
    have HB : Hid (BM (w5.alloc (.cells #[.int .i64 t.F, .int .i64 t.R, .int .i64 t.C, .slice D5 t.l.length c5] 24)) w5.heap.size t D5 c5) := hideIt ⟨Blk.new w5 _ _, HM5.out.keep (below_new _ _)⟩
    obtain ⟨w6, hV⟩ : ∃ V, V = w5.alloc (.cells #[.int .i64 t.F, .int .i64 t.R, .int .i64 t.C, .slice D5 t.l.length c5] 24) := ⟨_, rfl⟩
    rw [← hV] at HS HB ⊢
    obtain ⟨p7, hp⟩ : ∃ p, p = w5.heap.size := ⟨_, rfl⟩
    rw [← hp] at HB ⊢
    have HQ7w6 := HB
    clear hV hp HB HM5
    have hb := HS.out
    clear HS
    have HLw6 := hideIt (ls6 HLw5.out hb)
    have HQ2w6 := hideIt (HQ2w5.out.keep hb)
    have HQ3w6 := hideIt (HQ3w5.out.keep hb)
    clear hb HQ2w5 HQ3w5  HLw5
    go_wp2_with (first | ((with_reducible refine at_load ?_); refine wpList_ldG (by kernel_rfl) (.tmp 2) rfl w.heap.size _ _ _ _ rfl HQ2w6.out.box ?_))
    refine (indep_any a0 _ _ w6 (HT.out.keep HLw6.out) HQ2w6.out.mat).mono ?_
    rw [HLI.out]
    rintro e w7 ⟨v, rfl, ho, hb⟩
    obtain ⟨DI, cI, rfl, hmi⟩ := MRes.min (a := ⟨0, 0, 0, l⟩) ho
    have HM_I := hideIt hmi
    clear ho hmi
    have HLw7 := hideIt (ls6 HLw6.out hb)
    have HQ2w7 := hideIt (HQ2w6.out.keep hb)
    have HQ3w7 := hideIt (HQ3w6.out.keep hb)
    have HQ7w7 := hideIt (HQ7w6.out.keep hb)
    clear hb HQ2w6 HQ3w6 HQ7w6  HLw6
    go_upto_region 7 with fail
    go_wp2_with (first | ((with_reducible refine at_load ?_); refine wpList_ldG (by kernel_rfl) (.tmp 2) rfl w.heap.size _ _ _ _ rfl HQ2w7.out.box ?_))
    refine (pick_any a0 l _ _ _ _ w7 (HT.out.keep HLw7.out) HQ2w7.out.mat HM_I.out.sl HM_I.out.cap HM_I.out.max).mono ?_
    rintro e w8 hres
    rw [HR3.out] at hres
    obtain ⟨D8, c8, rfl, hin, hb⟩ := hres.min2
    have HM8 := hideIt hin
    clear hin hres
    have HLw8 := hideIt (ls6 HLw7.out hb)
    have HQ2w8 := hideIt (HQ2w7.out.keep hb)
    have HQ3w8 := hideIt (HQ3w7.out.keep hb)
    have HQ7w8 := hideIt (HQ7w7.out.keep hb)
    have HM_Iw8 := hideIt (HM_I.out.keep hb)
    clear hb HQ2w7 HQ3w7 HQ7w7 HM_I HLw7
    go_upto_region 8 with fail
    have HS := hideIt (below_new w8 (.cells #[.int .i64 pk.F, .int .i64 pk.R, .int .i64 pk.C, .slice D8 pk.l.length c8] 24))
    have HB : Hid (BM (w8.alloc (.cells #[.int .i64 pk.F, .int .i64 pk.R, .int .i64 pk.C, .slice D8 pk.l.length c8] 24)) w8.heap.size pk D8 c8) := hideIt ⟨Blk.new w8 _ _, HM8.out.keep (below_new _ _)⟩
    obtain ⟨w9, hV⟩ : ∃ V, V = w8.alloc (.cells #[.int .i64 pk.F, .int .i64 pk.R, .int .i64 pk.C, .slice D8 pk.l.length c8] 24) := ⟨_, rfl⟩
    rw [← hV] at HS HB ⊢
    obtain ⟨p10, hp⟩ : ∃ p, p = w8.heap.size := ⟨_, rfl⟩
    rw [← hp] at HB ⊢
    have HQ10w9 := HB
    clear hV hp HB HM8
    have hb := HS.out
    clear HS
    have HLw9 := hideIt (ls6 HLw8.out hb)
    have HQ2w9 := hideIt (HQ2w8.out.keep hb)
    have HQ3w9 := hideIt (HQ3w8.out.keep hb)
    have HQ7w9 := hideIt (HQ7w8.out.keep hb)
    have HM_Iw9 := hideIt (HM_Iw8.out.keep hb)
    clear hb HQ2w8 HQ3w8 HQ7w8 HM_Iw8 HLw8
    go_wp2_with (first | ((with_reducible refine at_load ?_); refine wpList_ldG (by kernel_rfl) (.tmp 7) rfl p7 _ _ _ _ rfl HQ7w9.out.box ?_))
    refine (rank_any t _ _ w9 (HT.out.keep HLw9.out) HQ7w9.out.mat).mono ?_
    rintro e w10 ⟨rfl, hb⟩
    rw [HK1.out]
    have HLw10 := hideIt (ls6 HLw9.out hb)
    have HQ2w10 := hideIt (HQ2w9.out.keep hb)
    have HQ3w10 := hideIt (HQ3w9.out.keep hb)
    have HQ7w10 := hideIt (HQ7w9.out.keep hb)
    have HQ10w10 := hideIt (HQ10w9.out.keep hb)
    have HM_Iw10 := hideIt (HM_Iw9.out.keep hb)
    clear hb HQ2w9 HQ3w9 HQ7w9 HQ10w9 HM_Iw9 HLw9
    go_wp2_with (first | ((with_reducible refine at_load ?_); refine wpList_ldG (by kernel_rfl) (.tmp 10) rfl p10 _ _ _ _ rfl HQ10w10.out.box ?_))
    refine (rank_any pk _ _ w10 (HT.out.keep HLw10.out) HQ10w10.out.mat).mono ?_
    rintro e w11 ⟨rfl, hb⟩
    rw [HK2.out]
    have HLw11 := hideIt (ls6 HLw10.out hb)
    have HQ2w11 := hideIt (HQ2w10.out.keep hb)
    have HQ3w11 := hideIt (HQ3w10.out.keep hb)
    have HQ7w11 := hideIt (HQ7w10.out.keep hb)
    have HQ10w11 := hideIt (HQ10w10.out.keep hb)
    have HM_Iw11 := hideIt (HM_Iw10.out.keep hb)
    clear hb HQ2w10 HQ3w10 HQ7w10 HQ10w10 HM_Iw10 HLw10
    go_upto_region 10 with fail
    go_wp2_with (first | ((with_reducible refine at_load ?_); refine wpList_ldG (by kernel_rfl) (.tmp 2) rfl w.heap.size _ _ _ _ rfl HQ2w11.out.box ?_) | ((with_reducible refine at_load ?_); refine wpList_ldG (by kernel_rfl) (.tmp 3) rfl (w.heap.size + 1) _ _ _ _ rfl HQ3w11.out.box ?_))
    refine (mul6_any a0 a1 _ _ _ _ w11 (HT.out.keep HLw11.out) HQ2w11.out.mat HQ3w11.out.mat).mono ?_
    rintro e w12 hres
    rw [HR1.out] at hres
    obtain ⟨D12, c12, rfl, hin, hb⟩ := hres.min2
    have HM12 := hideIt hin
    clear hin hres
    have HLw12 := hideIt (ls6 HLw11.out hb)
    have HQ2w12 := hideIt (HQ2w11.out.keep hb)
    have HQ3w12 := hideIt (HQ3w11.out.keep hb)
    have HQ7w12 := hideIt (HQ7w11.out.keep hb)
    have HQ10w12 := hideIt (HQ10w11.out.keep hb)
    have HM_Iw12 := hideIt (HM_Iw11.out.keep hb)
    clear hb HQ2w11 HQ3w11 HQ7w11 HQ10w11 HM_Iw11 HLw11
    go_upto_region 11 with fail
    have HS := hideIt (below_new w12 (.cells #[.int .i64 q.F, .int .i64 q.R, .int .i64 q.C, .slice D12 q.l.length c12] 24))
    have HB : Hid (BM (w12.alloc (.cells #[.int .i64 q.F, .int .i64 q.R, .int .i64 q.C, .slice D12 q.l.length c12] 24)) w12.heap.size q D12 c12) := hideIt ⟨Blk.new w12 _ _, HM12.out.keep (below_new _ _)⟩
    obtain ⟨w13, hV⟩ : ∃ V, V = w12.alloc (.cells #[.int .i64 q.F, .int .i64 q.R, .int .i64 q.C, .slice D12 q.l.length c12] 24) := ⟨_, rfl⟩
    rw [← hV] at HS HB ⊢
    obtain ⟨p12, hp⟩ : ∃ p, p = w12.heap.size := ⟨_, rfl⟩
    rw [← hp] at HB ⊢
    have HQ12w13 := HB
    clear hV hp HB HM12
    have hb := HS.out
    clear HS
    have HLw13 := hideIt (ls6 HLw12.out hb)
    have HQ2w13 := hideIt (HQ2w12.out.keep hb)
    have HQ3w13 := hideIt (HQ3w12.out.keep hb)
    have HQ7w13 := hideIt (HQ7w12.out.keep hb)
    have HQ10w13 := hideIt (HQ10w12.out.keep hb)
    have HM_Iw13 := hideIt (HM_Iw12.out.keep hb)
    clear hb HQ2w12 HQ3w12 HQ7w12 HQ10w12 HM_Iw12 HLw12
    by_cases hg : g = 0
    · subst hg
      have hk := rank_mul6 HR1.out
      rw [HK0.out] at hk
      obtain ⟨n, hn⟩ : ∃ n, rankM q = n := ⟨_, rfl⟩
      obtain ⟨rb, hrb⟩ : ∃ n, rankM a1 = n := ⟨_, rfl⟩
      rw [hn, hrb] at hk
      have HN := hideIt hn
      have HB := hideIt hrb
      obtain ⟨hk1, hk2⟩ := hk
      clear hn hrb
      go_upto_region 13 with fail
      go_wp2_with (first | ((with_reducible refine at_load ?_); refine wpList_ldG (by kernel_rfl) (.tmp 12) rfl p12 _ _ _ _ rfl HQ12w13.out.box ?_))
      refine (rank_any q _ _ w13 (HT.out.keep HLw13.out) HQ12w13.out.mat).mono ?_
      rintro e w14 ⟨rfl, hb⟩
      rw [HN.out]
      have HLw14 := hideIt (ls6 HLw13.out hb)
      have HQ2w14 := hideIt (HQ2w13.out.keep hb)
      have HQ3w14 := hideIt (HQ3w13.out.keep hb)
      have HQ7w14 := hideIt (HQ7w13.out.keep hb)
      have HQ10w14 := hideIt (HQ10w13.out.keep hb)
      have HQ12w14 := hideIt (HQ12w13.out.keep hb)
      have HM_Iw14 := hideIt (HM_Iw13.out.keep hb)
      clear hb HQ2w13 HQ3w13 HQ7w13 HQ10w13 HQ12w13 HM_Iw13 HLw13
      go_wp2_with fail
      refine (sanity_any w14 (HT.out.keep HLw14.out)).mono ?_
      rintro e w15 ⟨rfl, hb⟩
      have HLw15 := hideIt (ls6 HLw14.out hb)
      have HQ2w15 := hideIt (HQ2w14.out.keep hb)
      have HQ3w15 := hideIt (HQ3w14.out.keep hb)
      have HQ7w15 := hideIt (HQ7w14.out.keep hb)
      have HQ10w15 := hideIt (HQ10w14.out.keep hb)
      have HQ12w15 := hideIt (HQ12w14.out.keep hb)
      have HM_Iw15 := hideIt (HM_Iw14.out.keep hb)
      clear hb HQ2w14 HQ3w14 HQ7w14 HQ10w14 HQ12w14 HM_Iw14 HLw14
      go_wp2_with (first | ((with_reducible refine at_load ?_); refine wpList_ldG (by kernel_rfl) (.tmp 3) rfl (w.heap.size + 1) _ _ _ _ rfl HQ3w15.out.box ?_))
      refine (rank_any a1 _ _ w15 (HT.out.keep HLw15.out) HQ3w15.out.mat).mono ?_
      rintro e w16 ⟨rfl, hb⟩
      rw [HB.out]
      have HLw16 := hideIt (ls6 HLw15.out hb)
      have HQ2w16 := hideIt (HQ2w15.out.keep hb)
      have HQ3w16 := hideIt (HQ3w15.out.keep hb)
      have HQ7w16 := hideIt (HQ7w15.out.keep hb)
      have HQ10w16 := hideIt (HQ10w15.out.keep hb)
      have HQ12w16 := hideIt (HQ12w15.out.keep hb)
      have HM_Iw16 := hideIt (HM_Iw15.out.keep hb)
      clear hb HQ2w15 HQ3w15 HQ7w15 HQ10w15 HQ12w15 HM_Iw15 HLw15
      go_wp2_with fail
      go_ret
      exact ⟨rfl, HLw16.out⟩
    · have hq1 := int_neqT6 27 hg
      clear hg
      go_wp2_with fail
      refine (sanity_any w13 (HT.out.keep HLw13.out)).mono ?_
      rintro e w14 ⟨rfl, hb⟩
      have HLw14 := hideIt (ls6 HLw13.out hb)
      have HQ2w14 := hideIt (HQ2w13.out.keep hb)
      have HQ3w14 := hideIt (HQ3w13.out.keep hb)
      have HQ7w14 := hideIt (HQ7w13.out.keep hb)
      have HQ10w14 := hideIt (HQ10w13.out.keep hb)
      have HQ12w14 := hideIt (HQ12w13.out.keep hb)
      have HM_Iw14 := hideIt (HM_Iw13.out.keep hb)
      clear hb HQ2w13 HQ3w13 HQ7w13 HQ10w13 HQ12w13 HM_Iw13 HLw13
      go_wp2_with fail
      go_ret
      exact ⟨rfl, HLw14.out⟩

end Go.Proofs.YtodmcojcmihooaaDoor.matrixRanks
