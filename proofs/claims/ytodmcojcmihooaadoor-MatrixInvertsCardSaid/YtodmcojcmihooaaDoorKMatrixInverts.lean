/-
  The walk of the law: A valid square matrix has an inverse if and only if its rank is the number of its rows; the inverse inverts from both sides, and its inverse is the matrix.
-/
import Derived.Test.YtodmcojcmihooaaDoorMatJ
import Derived.Test.YtodmcojcmihooaaDoorMatSan
import Derived.Test.YtodmcojcmihooaaDoorArgM
namespace Go.Proofs.YtodmcojcmihooaaDoor.matrixInverts
open Go.RowKit
set_option linter.unusedVariables false

set_option maxHeartbeats 4000000 in
set_option maxRecDepth 100000 in
theorem walk (a0 : Mt) (A0 : Option Addr) (c0 : Nat) (w : World) (x0 : MIn w a0 A0 c0) (T1 : Tabs w) :
    Calls Tryd.prog 6 #[mtV a0.F a0.R a0.C (.slice A0 a0.l.length c0)] w fun e w' => e = .returned (.bool true) ∧ Below w.heap.size w w' := by
  obtain ⟨x, e, hr1⟩ : ∃ p e, invM a0 = (p, e) := ⟨_, _, rfl⟩
  have HR1 := hideIt hr1
  clear hr1
  have HT := hideIt T1
  clear T1
  obtain ⟨W0, hW0⟩ : ∃ W, W = (w.alloc (.cells #[.int .i64 a0.F, .int .i64 a0.R, .int .i64 a0.C, .slice A0 a0.l.length c0] 24)) := ⟨_, rfl⟩
  have HL0 : Hid (Below w.heap.size w W0) := hideIt (by rw [hW0]; exact ((Below.refl _ w).alloc (Nat.le_refl _) _))
  have HB1 : Blk W0 w.heap.size 24 (mtC a0.F a0.R a0.C (.slice A0 a0.l.length c0)) := by
    rw [hW0]
    have h := Blk.new w 24 (mtC a0.F a0.R a0.C (.slice A0 a0.l.length c0))
    exact h
  have HQ1W0 : Hid (BM W0 w.heap.size a0 A0 c0) := hideIt ⟨HB1, x0.keep HL0.out⟩
  have HW0 := hideIt hW0
  clear hW0 HB1 x0
  go_enter Tryd.func6, Tryd.ntmps6
  go_upto_region 1 with fail
  rw [← HW0.out]
  clear HW0
  go_upto_region 1 with fail
  go_cut [3] (fun sv W => ∃ ok : Bool, sv = .bool ok ∧ Aside ((ok = true → smallM a0 = true ∧ vM a0 = true) ∧ Below W0.heap.size W0 W))
  case first =>
    have HS0 := hideIt (Below.refl W0.heap.size W0)
    go_wp2_with (first | ((with_reducible refine at_load ?_); refine wpList_ldG (by kernel_rfl) (.tmp 1) rfl w.heap.size _ _ _ _ rfl HQ1W0.out.box ?_))
    refine (small_any a0 A0 c0 W0).mono ?_
    rintro e w1 ⟨rfl, hb⟩
    have HSX := hideIt (ls6 HS0.out hb)
    have HLw1 := hideIt (ls6 HL0.out hb)
    have HQ1w1 := hideIt (HQ1W0.out.keep hb)
    clear hb HQ1W0  HL0
    cases h0 : smallM a0
    · go_wp2_with fail
      go_meet
      exact ⟨_, rfl, ⟨(fun h => Bool.noConfusion h), HSX.out⟩⟩
    · go_wp2_with (first | ((with_reducible refine at_load ?_); refine wpList_ldG (by kernel_rfl) (.tmp 1) rfl w.heap.size _ _ _ _ rfl HQ1w1.out.box ?_))
      refine (rvalid_b HQ1w1.out.mat w1 (Below.refl _ _)).mono ?_
      rintro e w2 ⟨rfl, hb⟩
      have HSX := hideIt (ls6 HSX.out hb)
      have HLw2 := hideIt (ls6 HLw1.out hb)
      have HQ1w2 := hideIt (HQ1w1.out.keep hb)
      clear hb HQ1w1  HLw1
      cases h1 : vM a0
      · go_wp2_with fail
        go_meet
        exact ⟨_, rfl, ⟨(fun h => Bool.noConfusion h), HSX.out⟩⟩
      · go_wp2_with fail
        go_meet
        exact ⟨_, rfl, ⟨(fun _ => ⟨h0, h1⟩), HSX.out⟩⟩
  obtain ⟨ok, rfl, HOK⟩ := hcut
  have HFIT := hideIt HOK.out.1
  have hb := HOK.out.2
  clear HOK
  have HLwc := hideIt (ls6 HL0.out hb)
  have HQ1wc := hideIt (HQ1W0.out.keep hb)
  clear hb HQ1W0  HL0
  cases ok
  · go_wp2_with fail
    refine (sanity_any wc (HT.out.keep HLwc.out)).mono ?_
    rintro e w3 ⟨rfl, hb⟩
    have HLw3 := hideIt (ls6 HLwc.out hb)
    have HQ1w3 := hideIt (HQ1wc.out.keep hb)
    clear hb HQ1wc  HLwc
    go_wp2_with fail
    go_ret
    exact ⟨rfl, HLw3.out⟩
  · by_cases hRC : a0.R = a0.C
    · have HV := hideIt (HFIT.out (by trivial)).2
      have HRC := hideIt hRC
      have hq := int_neqF6 3 hRC
      clear hRC
      have cf11 := HQ1wc.out.box.cell 1
      have cf12 := HQ1wc.out.box.cell 2
      go_upto_region 4 with fail
      clear cf11 cf12
      go_wp2_with (first | ((with_reducible refine at_load ?_); refine wpList_ldG (by kernel_rfl) (.tmp 1) rfl w.heap.size _ _ _ _ rfl HQ1wc.out.box ?_))
      refine (inver_any a0 _ _ wc (HT.out.keep HLwc.out) HQ1wc.out.mat).mono ?_
      rintro e w3 hres
      rw [HR1.out] at hres
      obtain ⟨D3, c3, rfl, hin, hb⟩ := hres.min2
      have HM3 := hideIt hin
      clear hin hres
      have HLw3 := hideIt (ls6 HLwc.out hb)
      have HQ1w3 := hideIt (HQ1wc.out.keep hb)
      clear hb HQ1wc  HLwc
      go_upto_region 5 with fail
      have HS := hideIt (below_new w3 (.cells #[.int .i64 x.F, .int .i64 x.R, .int .i64 x.C, .slice D3 x.l.length c3] 24))
      have HB : Hid (BM (w3.alloc (.cells #[.int .i64 x.F, .int .i64 x.R, .int .i64 x.C, .slice D3 x.l.length c3] 24)) w3.heap.size x D3 c3) := hideIt ⟨Blk.new w3 _ _, HM3.out.keep (below_new _ _)⟩
      obtain ⟨w4, hV⟩ : ∃ V, V = w3.alloc (.cells #[.int .i64 x.F, .int .i64 x.R, .int .i64 x.C, .slice D3 x.l.length c3] 24) := ⟨_, rfl⟩
      rw [← hV] at HS HB ⊢
      obtain ⟨p4, hp⟩ : ∃ p, p = w3.heap.size := ⟨_, rfl⟩
      rw [← hp] at HB ⊢
      have HQ4w4 := HB
      clear hV hp HB HM3
      have hb := HS.out
      clear HS
      have HLw4 := hideIt (ls6 HLw3.out hb)
      have HQ1w4 := hideIt (HQ1w3.out.keep hb)
      clear hb HQ1w3  HLw3
      by_cases he : e = 0
      · subst he
        obtain ⟨hk, h1, h2, h3⟩ := inv_sides HV.out HRC.out HR1.out
        obtain ⟨i1, ie, hid⟩ : ∃ p e, idM a0.F a0.R = (p, e) := ⟨_, _, rfl⟩
        rw [hid] at h1 h2
        have HK := hideIt hk
        have HX1 := hideIt (show mulM a0 x = (i1, 0) from h1)
        have HX2 := hideIt (show mulM x a0 = (i1, 0) from h2)
        have HX3 := hideIt h3
        have HID := hideIt hid
        have HLI := hideIt (show i1.l.length ≤ 1024 by have h := idM_len a0.F a0.R; rw [hid] at h; exact h)
        have HLA := hideIt (vM_len HV.out)
        have hqr := int_eqlT 3 (a := a0.R) (b := a0.R) rfl
        clear hk h1 h2 h3 hid
        go_upto_region 7 with fail
        have cf10 := HQ1w4.out.box.cell 0
        have cf11 := HQ1w4.out.box.cell 1
        go_wp2_with fail
        clear cf10 cf11
        refine (rident_any a0.F a0.R w4).mono ?_
        rintro e w5 hres
        rw [HID.out] at hres
        obtain ⟨D5, c5, rfl, hin, hb⟩ := hres.min2
        have HM5 := hideIt hin
        clear hin hres
        have HLw5 := hideIt (ls6 HLw4.out hb)
        have HQ1w5 := hideIt (HQ1w4.out.keep hb)
        have HQ4w5 := hideIt (HQ4w4.out.keep hb)
        clear hb HQ1w4 HQ4w4  HLw4
        go_upto_region 8 with fail
        have HS := hideIt (below_new w5 (.cells #[.int .i64 i1.F, .int .i64 i1.R, .int .i64 i1.C, .slice D5 i1.l.length c5] 24))
        have HB : Hid (BM (w5.alloc (.cells #[.int .i64 i1.F, .int .i64 i1.R, .int .i64 i1.C, .slice D5 i1.l.length c5] 24)) w5.heap.size i1 D5 c5) := hideIt ⟨Blk.new w5 _ _, HM5.out.keep (below_new _ _)⟩
        obtain ⟨w6, hV⟩ : ∃ V, V = w5.alloc (.cells #[.int .i64 i1.F, .int .i64 i1.R, .int .i64 i1.C, .slice D5 i1.l.length c5] 24) := ⟨_, rfl⟩
        rw [← hV] at HS HB ⊢
        obtain ⟨p6, hp⟩ : ∃ p, p = w5.heap.size := ⟨_, rfl⟩
        rw [← hp] at HB ⊢
        have HQ6w6 := HB
        clear hV hp HB HM5
        have hb := HS.out
        clear HS
        have HLw6 := hideIt (ls6 HLw5.out hb)
        have HQ1w6 := hideIt (HQ1w5.out.keep hb)
        have HQ4w6 := hideIt (HQ4w5.out.keep hb)
        clear hb HQ1w5 HQ4w5  HLw5
        go_wp2_with (first | ((with_reducible refine at_load ?_); refine wpList_ldG (by kernel_rfl) (.tmp 1) rfl w.heap.size _ _ _ _ rfl HQ1w6.out.box ?_) | ((with_reducible refine at_load ?_); refine wpList_ldG (by kernel_rfl) (.tmp 4) rfl p4 _ _ _ _ rfl HQ4w6.out.box ?_))
        refine (mul6_any a0 x _ _ _ _ w6 (HT.out.keep HLw6.out) HQ1w6.out.mat HQ4w6.out.mat).mono ?_
        rintro e w7 hres
        rw [HX1.out] at hres
        obtain ⟨D7, c7, rfl, hin, hb⟩ := hres.min2
        have HM7 := hideIt hin
        clear hin hres
        have HLw7 := hideIt (ls6 HLw6.out hb)
        have HQ1w7 := hideIt (HQ1w6.out.keep hb)
        have HQ4w7 := hideIt (HQ4w6.out.keep hb)
        have HQ6w7 := hideIt (HQ6w6.out.keep hb)
        clear hb HQ1w6 HQ4w6 HQ6w6  HLw6
        go_upto_region 9 with fail
        have HS := hideIt (below_new w7 (.cells #[.int .i64 i1.F, .int .i64 i1.R, .int .i64 i1.C, .slice D7 i1.l.length c7] 24))
        have HB : Hid (BM (w7.alloc (.cells #[.int .i64 i1.F, .int .i64 i1.R, .int .i64 i1.C, .slice D7 i1.l.length c7] 24)) w7.heap.size i1 D7 c7) := hideIt ⟨Blk.new w7 _ _, HM7.out.keep (below_new _ _)⟩
        obtain ⟨w8, hV⟩ : ∃ V, V = w7.alloc (.cells #[.int .i64 i1.F, .int .i64 i1.R, .int .i64 i1.C, .slice D7 i1.l.length c7] 24) := ⟨_, rfl⟩
        rw [← hV] at HS HB ⊢
        obtain ⟨p8, hp⟩ : ∃ p, p = w7.heap.size := ⟨_, rfl⟩
        rw [← hp] at HB ⊢
        have HQ8w8 := HB
        clear hV hp HB HM7
        have hb := HS.out
        clear HS
        have HLw8 := hideIt (ls6 HLw7.out hb)
        have HQ1w8 := hideIt (HQ1w7.out.keep hb)
        have HQ4w8 := hideIt (HQ4w7.out.keep hb)
        have HQ6w8 := hideIt (HQ6w7.out.keep hb)
        clear hb HQ1w7 HQ4w7 HQ6w7  HLw7
        go_wp2_with (first | ((with_reducible refine at_load ?_); refine wpList_ldG (by kernel_rfl) (.tmp 4) rfl p4 _ _ _ _ rfl HQ4w8.out.box ?_) | ((with_reducible refine at_load ?_); refine wpList_ldG (by kernel_rfl) (.tmp 1) rfl w.heap.size _ _ _ _ rfl HQ1w8.out.box ?_))
        refine (mul6_any x a0 _ _ _ _ w8 (HT.out.keep HLw8.out) HQ4w8.out.mat HQ1w8.out.mat).mono ?_
        rintro e w9 hres
        rw [HX2.out] at hres
        obtain ⟨D9, c9, rfl, hin, hb⟩ := hres.min2
        have HM9 := hideIt hin
        clear hin hres
        have HLw9 := hideIt (ls6 HLw8.out hb)
        have HQ1w9 := hideIt (HQ1w8.out.keep hb)
        have HQ4w9 := hideIt (HQ4w8.out.keep hb)
        have HQ6w9 := hideIt (HQ6w8.out.keep hb)
        have HQ8w9 := hideIt (HQ8w8.out.keep hb)
        clear hb HQ1w8 HQ4w8 HQ6w8 HQ8w8  HLw8
        go_upto_region 10 with fail
        have HS := hideIt (below_new w9 (.cells #[.int .i64 i1.F, .int .i64 i1.R, .int .i64 i1.C, .slice D9 i1.l.length c9] 24))
        have HB : Hid (BM (w9.alloc (.cells #[.int .i64 i1.F, .int .i64 i1.R, .int .i64 i1.C, .slice D9 i1.l.length c9] 24)) w9.heap.size i1 D9 c9) := hideIt ⟨Blk.new w9 _ _, HM9.out.keep (below_new _ _)⟩
        obtain ⟨w10, hV⟩ : ∃ V, V = w9.alloc (.cells #[.int .i64 i1.F, .int .i64 i1.R, .int .i64 i1.C, .slice D9 i1.l.length c9] 24) := ⟨_, rfl⟩
        rw [← hV] at HS HB ⊢
        obtain ⟨p10, hp⟩ : ∃ p, p = w9.heap.size := ⟨_, rfl⟩
        rw [← hp] at HB ⊢
        have HQ10w10 := HB
        clear hV hp HB HM9
        have hb := HS.out
        clear HS
        have HLw10 := hideIt (ls6 HLw9.out hb)
        have HQ1w10 := hideIt (HQ1w9.out.keep hb)
        have HQ4w10 := hideIt (HQ4w9.out.keep hb)
        have HQ6w10 := hideIt (HQ6w9.out.keep hb)
        have HQ8w10 := hideIt (HQ8w9.out.keep hb)
        clear hb HQ1w9 HQ4w9 HQ6w9 HQ8w9  HLw9
        go_wp2_with (first | ((with_reducible refine at_load ?_); refine wpList_ldG (by kernel_rfl) (.tmp 4) rfl p4 _ _ _ _ rfl HQ4w10.out.box ?_))
        refine (inver_any x _ _ w10 (HT.out.keep HLw10.out) HQ4w10.out.mat).mono ?_
        rintro e w11 hres
        rw [HX3.out] at hres
        obtain ⟨D11, c11, rfl, hin, hb⟩ := hres.min2
        have HM11 := hideIt hin
        clear hin hres
        have HLw11 := hideIt (ls6 HLw10.out hb)
        have HQ1w11 := hideIt (HQ1w10.out.keep hb)
        have HQ4w11 := hideIt (HQ4w10.out.keep hb)
        have HQ6w11 := hideIt (HQ6w10.out.keep hb)
        have HQ8w11 := hideIt (HQ8w10.out.keep hb)
        have HQ10w11 := hideIt (HQ10w10.out.keep hb)
        clear hb HQ1w10 HQ4w10 HQ6w10 HQ8w10 HQ10w10  HLw10
        go_upto_region 11 with fail
        have HS := hideIt (below_new w11 (.cells #[.int .i64 a0.F, .int .i64 a0.R, .int .i64 a0.C, .slice D11 a0.l.length c11] 24))
        have HB : Hid (BM (w11.alloc (.cells #[.int .i64 a0.F, .int .i64 a0.R, .int .i64 a0.C, .slice D11 a0.l.length c11] 24)) w11.heap.size a0 D11 c11) := hideIt ⟨Blk.new w11 _ _, HM11.out.keep (below_new _ _)⟩
        obtain ⟨w12, hV⟩ : ∃ V, V = w11.alloc (.cells #[.int .i64 a0.F, .int .i64 a0.R, .int .i64 a0.C, .slice D11 a0.l.length c11] 24) := ⟨_, rfl⟩
        rw [← hV] at HS HB ⊢
        obtain ⟨p12, hp⟩ : ∃ p, p = w11.heap.size := ⟨_, rfl⟩
        rw [← hp] at HB ⊢
        have HQ12w12 := HB
        clear hV hp HB HM11
        have hb := HS.out
        clear HS
        have HLw12 := hideIt (ls6 HLw11.out hb)
        have HQ1w12 := hideIt (HQ1w11.out.keep hb)
        have HQ4w12 := hideIt (HQ4w11.out.keep hb)
        have HQ6w12 := hideIt (HQ6w11.out.keep hb)
        have HQ8w12 := hideIt (HQ8w11.out.keep hb)
        have HQ10w12 := hideIt (HQ10w11.out.keep hb)
        clear hb HQ1w11 HQ4w11 HQ6w11 HQ8w11 HQ10w11  HLw11
        go_upto_region 11 with fail
        have HHK : Hid (∀ W' bt, Below w12.heap.size w12 W' → Hooks [(3, fun W => Blk W w.heap.size 24 (mtC a0.F a0.R a0.C (.slice A0 a0.l.length c0))), (6, fun W => W.cell? ⟨w.heap.size, 1, none⟩ = some (.int .i64 a0.R)), (23, fun W => Blk W p8 24 (mtC i1.F i1.R i1.C (.slice D7 i1.l.length c7))), (23, fun W => Blk W p6 24 (mtC i1.F i1.R i1.C (.slice D5 i1.l.length c5))), (28, fun W => Blk W p10 24 (mtC i1.F i1.R i1.C (.slice D9 i1.l.length c9))), (28, fun W => Blk W p6 24 (mtC i1.F i1.R i1.C (.slice D5 i1.l.length c5))), (33, fun W => Blk W p12 24 (mtC a0.F a0.R a0.C (.slice D11 a0.l.length c11))), (33, fun W => Blk W w.heap.size 24 (mtC a0.F a0.R a0.C (.slice A0 a0.l.length c0)))] bt W') := hideIt (fun W' bt hb' => Hooks.add (HQ1w12.out.box.kept hb' HQ1w12.out.box.lt) (Hooks.add ((HQ1w12.out.box.kept hb' HQ1w12.out.box.lt).cell 1) (Hooks.add (HQ8w12.out.box.kept hb' HQ8w12.out.box.lt) (Hooks.add (HQ6w12.out.box.kept hb' HQ6w12.out.box.lt) (Hooks.add (HQ10w12.out.box.kept hb' HQ10w12.out.box.lt) (Hooks.add (HQ6w12.out.box.kept hb' HQ6w12.out.box.lt) (Hooks.add (HQ12w12.out.box.kept hb' HQ12w12.out.box.lt) (Hooks.add (HQ1w12.out.box.kept hb' HQ1w12.out.box.lt) (Hooks.nil _ _)))))))))
        have hb : Below w12.heap.size w12 w12.drew := (Below.refl _ _).drew
        refine loads_begin_n 36 [(3, fun W => Blk W w.heap.size 24 (mtC a0.F a0.R a0.C (.slice A0 a0.l.length c0))), (6, fun W => W.cell? ⟨w.heap.size, 1, none⟩ = some (.int .i64 a0.R)), (23, fun W => Blk W p8 24 (mtC i1.F i1.R i1.C (.slice D7 i1.l.length c7))), (23, fun W => Blk W p6 24 (mtC i1.F i1.R i1.C (.slice D5 i1.l.length c5))), (28, fun W => Blk W p10 24 (mtC i1.F i1.R i1.C (.slice D9 i1.l.length c9))), (28, fun W => Blk W p6 24 (mtC i1.F i1.R i1.C (.slice D5 i1.l.length c5))), (33, fun W => Blk W p12 24 (mtC a0.F a0.R a0.C (.slice D11 a0.l.length c11))), (33, fun W => Blk W w.heap.size 24 (mtC a0.F a0.R a0.C (.slice A0 a0.l.length c0)))] rfl (by kernel_rfl) ?_
        generalize w12.drew = w13 at *
        have HDw13 := hideIt hb
        have HLw13 := hideIt (ls6 HLw12.out hb)
        have HQ1w13 := hideIt (HQ1w12.out.keep hb)
        have HQ4w13 := hideIt (HQ4w12.out.keep hb)
        have HQ6w13 := hideIt (HQ6w12.out.keep hb)
        have HQ8w13 := hideIt (HQ8w12.out.keep hb)
        have HQ10w13 := hideIt (HQ10w12.out.keep hb)
        have HQ12w13 := hideIt (HQ12w12.out.keep hb)
        clear hb HQ1w12 HQ4w12 HQ6w12 HQ8w12 HQ10w12 HQ12w12  HLw12
        refine wpAnyL_one (o := ⟨some 74, _, _, _, _, _⟩) 0 (by kernel_rfl) rfl (fun K hK => ?_)
        go_wp2_with fail
        refine (sanity_any w13 (HT.out.keep HLw13.out)).mono ?_
        rintro e w14 ⟨rfl, hb⟩
        have HDw14 := hideIt (ls6 HDw13.out hb)
        have HLw14 := hideIt (ls6 HLw13.out hb)
        have HQ1w14 := hideIt (HQ1w13.out.keep hb)
        have HQ4w14 := hideIt (HQ4w13.out.keep hb)
        have HQ6w14 := hideIt (HQ6w13.out.keep hb)
        have HQ8w14 := hideIt (HQ8w13.out.keep hb)
        have HQ10w14 := hideIt (HQ10w13.out.keep hb)
        have HQ12w14 := hideIt (HQ12w13.out.keep hb)
        clear hb HQ1w13 HQ4w13 HQ6w13 HQ8w13 HQ10w13 HQ12w13  HLw13
        go_wp2_with fail
        refine hK _ _ (HHK.out _ _ HDw14.out) ?_
        clear hK K
        refine wpAnyL_move (oi := ⟨some 75, _, _, _, _, _⟩) 1 ?_ rfl (by kernel_rfl) (by kernel_rfl) (by kernel_rfl) (by kernel_rfl) (fun _ _ _ h => h) (by kernel_rfl) ?_ (HHK.out _ _ HDw14.out) ?_
        rotate_left
        · intro W'; go_simp; first | done | with_reducible rfl
        try simp only [Act.put]
        try simp only [List.setIfInBounds_toArray]
        try simp only [List.set_cons_succ]
        try simp only [List.set_cons_zero]
        refine wpAnyL_take (oi := ⟨some 76, _, _, _, _, _⟩) 2 3 (mtV a0.F a0.R a0.C (.slice A0 a0.l.length c0)) _ rfl (by kernel_rfl) (by kernel_rfl) (by kernel_rfl) (by kernel_rfl) (by kernel_rfl) (by kernel_rfl) (.head _) (fun _ _ _ h => h) (by kernel_rfl) (fun W' hW' => exec_ld rfl (ld_mt hW')) (HHK.out _ _ HDw14.out) ?_
        try simp only [Act.put]
        try simp only [List.setIfInBounds_toArray]
        try simp only [List.set_cons_succ]
        try simp only [List.set_cons_zero]
        refine wpAnyL_move (oi := ⟨some 78, _, _, _, _, _⟩) 4 ?_ rfl (by kernel_rfl) (by kernel_rfl) (by kernel_rfl) (by kernel_rfl) (fun _ _ _ h => h) (by kernel_rfl) ?_ (HHK.out _ _ HDw14.out) ?_
        rotate_left
        · intro W'; go_simp; first | done | with_reducible rfl
        try simp only [Act.put]
        try simp only [List.setIfInBounds_toArray]
        try simp only [List.set_cons_succ]
        try simp only [List.set_cons_zero]
        refine wpAnyL_take (oi := ⟨some 79, _, _, _, _, _⟩) 5 6 (.int .i64 a0.R) _ rfl (by kernel_rfl) (by kernel_rfl) (by kernel_rfl) (by kernel_rfl) (by kernel_rfl) (by kernel_rfl) (.tail _ (.head _)) (fun _ _ _ h => h) (by kernel_rfl) (fun W' hW' => by have h := hW'; simp [execOp, h, go_sem]) (HHK.out _ _ HDw14.out) ?_
        try simp only [Act.put]
        try simp only [List.setIfInBounds_toArray]
        try simp only [List.set_cons_succ]
        try simp only [List.set_cons_zero]
        refine wpAnyL_one (o := ⟨some 77, _, _, _, _, _⟩) 3 (by kernel_rfl) rfl (fun K hK => ?_)
        go_wp2_with fail
        refine (rank_any a0 _ _ w14 (HT.out.keep HLw14.out) HQ1w14.out.mat).mono ?_
        rintro e w15 ⟨rfl, hb⟩
        rw [HK.out]
        have HDw15 := hideIt (ls6 HDw14.out hb)
        have HLw15 := hideIt (ls6 HLw14.out hb)
        have HQ1w15 := hideIt (HQ1w14.out.keep hb)
        have HQ4w15 := hideIt (HQ4w14.out.keep hb)
        have HQ6w15 := hideIt (HQ6w14.out.keep hb)
        have HQ8w15 := hideIt (HQ8w14.out.keep hb)
        have HQ10w15 := hideIt (HQ10w14.out.keep hb)
        have HQ12w15 := hideIt (HQ12w14.out.keep hb)
        clear hb HQ1w14 HQ4w14 HQ6w14 HQ8w14 HQ10w14 HQ12w14  HLw14
        go_wp2_with fail
        refine hK _ _ (HHK.out _ _ HDw15.out) ?_
        clear hK K
        refine wpAnyL_one (o := ⟨some 80, _, _, _, _, _⟩) 6 (by kernel_rfl) rfl (fun K hK => ?_)
        go_wp2_with fail
        refine hK _ _ (HHK.out _ _ HDw15.out) ?_
        clear hK K
        refine wpAnyL_move (oi := ⟨some 81, _, _, _, _, _⟩) 7 ?_ rfl (by kernel_rfl) (by kernel_rfl) (by kernel_rfl) (by kernel_rfl) (fun _ _ _ h => h) (by kernel_rfl) ?_ (HHK.out _ _ HDw15.out) ?_
        rotate_left
        · intro W'; go_simp; first | done | with_reducible rfl
        try simp only [Act.put]
        try simp only [List.setIfInBounds_toArray]
        try simp only [List.set_cons_succ]
        try simp only [List.set_cons_zero]
        refine wpAnyL_move (oi := ⟨some 82, _, _, _, _, _⟩) 8 ?_ rfl (by kernel_rfl) (by kernel_rfl) (by kernel_rfl) (by kernel_rfl) (fun _ _ _ h => h) (by kernel_rfl) ?_ (HHK.out _ _ HDw15.out) ?_
        rotate_left
        · intro W'; go_simp; first | done | with_reducible rfl
        try simp only [Act.put]
        try simp only [List.setIfInBounds_toArray]
        try simp only [List.set_cons_succ]
        try simp only [List.set_cons_zero]
        refine wpAnyL_move (oi := ⟨some 83, _, _, _, _, _⟩) 9 ?_ rfl (by kernel_rfl) (by kernel_rfl) (by kernel_rfl) (by kernel_rfl) (fun _ _ _ h => h) (by kernel_rfl) ?_ (HHK.out _ _ HDw15.out) ?_
        rotate_left
        · intro W'; go_simp; first | done | with_reducible rfl
        try simp only [Act.put]
        try simp only [List.setIfInBounds_toArray]
        try simp only [List.set_cons_succ]
        try simp only [List.set_cons_zero]
        refine wpAnyL_move (oi := ⟨some 84, _, _, _, _, _⟩) 10 ?_ rfl (by kernel_rfl) (by kernel_rfl) (by kernel_rfl) (by kernel_rfl) (fun _ _ _ h => h) (by kernel_rfl) ?_ (HHK.out _ _ HDw15.out) ?_
        rotate_left
        · intro W'; go_simp; first | done | with_reducible rfl
        try simp only [Act.put]
        try simp only [List.setIfInBounds_toArray]
        try simp only [List.set_cons_succ]
        try simp only [List.set_cons_zero]
        refine wpAnyL_move (oi := ⟨some 85, _, _, _, _, _⟩) 11 ?_ rfl (by kernel_rfl) (by kernel_rfl) (by kernel_rfl) (by kernel_rfl) (fun _ _ _ h => h) (by kernel_rfl) ?_ (HHK.out _ _ HDw15.out) ?_
        rotate_left
        · intro W'; go_simp; first | done | with_reducible rfl
        try simp only [Act.put]
        try simp only [List.setIfInBounds_toArray]
        try simp only [List.set_cons_succ]
        try simp only [List.set_cons_zero]
        refine wpAnyL_move (oi := ⟨some 86, _, _, _, _, _⟩) 12 ?_ rfl (by kernel_rfl) (by kernel_rfl) (by kernel_rfl) (by kernel_rfl) (fun _ _ _ h => h) (by kernel_rfl) ?_ (HHK.out _ _ HDw15.out) ?_
        rotate_left
        · intro W'; go_simp; first | done | with_reducible rfl
        try simp only [Act.put]
        try simp only [List.setIfInBounds_toArray]
        try simp only [List.set_cons_succ]
        try simp only [List.set_cons_zero]
        refine wpAnyL_move (oi := ⟨some 87, _, _, _, _, _⟩) 13 ?_ rfl (by kernel_rfl) (by kernel_rfl) (by kernel_rfl) (by kernel_rfl) (fun _ _ _ h => h) (by kernel_rfl) ?_ (HHK.out _ _ HDw15.out) ?_
        rotate_left
        · intro W'; go_simp; first | done | with_reducible rfl
        try simp only [Act.put]
        try simp only [List.setIfInBounds_toArray]
        try simp only [List.set_cons_succ]
        try simp only [List.set_cons_zero]
        refine wpAnyL_move (oi := ⟨some 88, _, _, _, _, _⟩) 14 ?_ rfl (by kernel_rfl) (by kernel_rfl) (by kernel_rfl) (by kernel_rfl) (fun _ _ _ h => h) (by kernel_rfl) ?_ (HHK.out _ _ HDw15.out) ?_
        rotate_left
        · intro W'; go_simp; first | done | with_reducible rfl
        try simp only [Act.put]
        try simp only [List.setIfInBounds_toArray]
        try simp only [List.set_cons_succ]
        try simp only [List.set_cons_zero]
        refine wpAnyL_move (oi := ⟨some 89, _, _, _, _, _⟩) 15 ?_ rfl (by kernel_rfl) (by kernel_rfl) (by kernel_rfl) (by kernel_rfl) (fun _ _ _ h => h) (by kernel_rfl) ?_ (HHK.out _ _ HDw15.out) ?_
        rotate_left
        · intro W'; go_simp; first | done | with_reducible rfl
        try simp only [Act.put]
        try simp only [List.setIfInBounds_toArray]
        try simp only [List.set_cons_succ]
        try simp only [List.set_cons_zero]
        refine wpAnyL_move (oi := ⟨some 90, _, _, _, _, _⟩) 16 ?_ rfl (by kernel_rfl) (by kernel_rfl) (by kernel_rfl) (by kernel_rfl) (fun _ _ _ h => h) (by kernel_rfl) ?_ (HHK.out _ _ HDw15.out) ?_
        rotate_left
        · intro W'; go_simp; first | done | with_reducible rfl
        try simp only [Act.put]
        try simp only [List.setIfInBounds_toArray]
        try simp only [List.set_cons_succ]
        try simp only [List.set_cons_zero]
        refine wpAnyL_move (oi := ⟨some 91, _, _, _, _, _⟩) 17 ?_ rfl (by kernel_rfl) (by kernel_rfl) (by kernel_rfl) (by kernel_rfl) (fun _ _ _ h => h) (by kernel_rfl) ?_ (HHK.out _ _ HDw15.out) ?_
        rotate_left
        · intro W'; go_simp; first | done | with_reducible rfl
        try simp only [Act.put]
        try simp only [List.setIfInBounds_toArray]
        try simp only [List.set_cons_succ]
        try simp only [List.set_cons_zero]
        refine wpAnyL_move (oi := ⟨some 92, _, _, _, _, _⟩) 18 ?_ rfl (by kernel_rfl) (by kernel_rfl) (by kernel_rfl) (by kernel_rfl) (fun _ _ _ h => h) (by kernel_rfl) ?_ (HHK.out _ _ HDw15.out) ?_
        rotate_left
        · intro W'; go_simp; first | done | with_reducible rfl
        try simp only [Act.put]
        try simp only [List.setIfInBounds_toArray]
        try simp only [List.set_cons_succ]
        try simp only [List.set_cons_zero]
        refine wpAnyL_move (oi := ⟨some 93, _, _, _, _, _⟩) 19 ?_ rfl (by kernel_rfl) (by kernel_rfl) (by kernel_rfl) (by kernel_rfl) (fun _ _ _ h => h) (by kernel_rfl) ?_ (HHK.out _ _ HDw15.out) ?_
        rotate_left
        · intro W'; go_simp; first | done | with_reducible rfl
        try simp only [Act.put]
        try simp only [List.setIfInBounds_toArray]
        try simp only [List.set_cons_succ]
        try simp only [List.set_cons_zero]
        refine wpAnyL_move (oi := ⟨some 94, _, _, _, _, _⟩) 20 ?_ rfl (by kernel_rfl) (by kernel_rfl) (by kernel_rfl) (by kernel_rfl) (fun _ _ _ h => h) (by kernel_rfl) ?_ (HHK.out _ _ HDw15.out) ?_
        rotate_left
        · intro W'; go_simp; first | done | with_reducible rfl
        try simp only [Act.put]
        try simp only [List.setIfInBounds_toArray]
        try simp only [List.set_cons_succ]
        try simp only [List.set_cons_zero]
        refine wpAnyL_take (oi := ⟨some 95, _, _, _, _, _⟩) 21 23 (mtV i1.F i1.R i1.C (.slice D7 i1.l.length c7)) _ rfl (by kernel_rfl) (by kernel_rfl) (by kernel_rfl) (by kernel_rfl) (by kernel_rfl) (by kernel_rfl) (.tail _ (.tail _ (.head _))) (fun _ _ _ h => h) (by kernel_rfl) (fun W' hW' => exec_ld rfl (ld_mt hW')) (HHK.out _ _ HDw15.out) ?_
        try simp only [Act.put]
        try simp only [List.setIfInBounds_toArray]
        try simp only [List.set_cons_succ]
        try simp only [List.set_cons_zero]
        refine wpAnyL_take (oi := ⟨some 96, _, _, _, _, _⟩) 22 23 (mtV i1.F i1.R i1.C (.slice D5 i1.l.length c5)) _ rfl (by kernel_rfl) (by kernel_rfl) (by kernel_rfl) (by kernel_rfl) (by kernel_rfl) (by kernel_rfl) (.tail _ (.tail _ (.tail _ (.head _)))) (fun _ _ _ h => h) (by kernel_rfl) (fun W' hW' => exec_ld rfl (ld_mt hW')) (HHK.out _ _ HDw15.out) ?_
        try simp only [Act.put]
        try simp only [List.setIfInBounds_toArray]
        try simp only [List.set_cons_succ]
        try simp only [List.set_cons_zero]
        refine wpAnyL_one (o := ⟨some 97, _, _, _, _, _⟩) 23 (by kernel_rfl) rfl (fun K hK => ?_)
        go_wp2_with fail
        refine (rsame_any i1 i1 _ _ _ _ w15 HQ8w15.out.mat HQ6w15.out.mat (Nat.le_trans HLI.out (by decide))).mono ?_
        rintro e w16 ⟨rfl, hb⟩
        rw [sameM_self]
        have HDw16 := hideIt (ls6 HDw15.out hb)
        have HLw16 := hideIt (ls6 HLw15.out hb)
        have HQ1w16 := hideIt (HQ1w15.out.keep hb)
        have HQ4w16 := hideIt (HQ4w15.out.keep hb)
        have HQ6w16 := hideIt (HQ6w15.out.keep hb)
        have HQ8w16 := hideIt (HQ8w15.out.keep hb)
        have HQ10w16 := hideIt (HQ10w15.out.keep hb)
        have HQ12w16 := hideIt (HQ12w15.out.keep hb)
        clear hb HQ1w15 HQ4w15 HQ6w15 HQ8w15 HQ10w15 HQ12w15  HLw15
        go_wp2_with fail
        refine hK _ _ (HHK.out _ _ HDw16.out) ?_
        clear hK K
        refine wpAnyL_move (oi := ⟨some 98, _, _, _, _, _⟩) 24 ?_ rfl (by kernel_rfl) (by kernel_rfl) (by kernel_rfl) (by kernel_rfl) (fun _ _ _ h => h) (by kernel_rfl) ?_ (HHK.out _ _ HDw16.out) ?_
        rotate_left
        · intro W'; go_simp; first | done | with_reducible rfl
        try simp only [Act.put]
        try simp only [List.setIfInBounds_toArray]
        try simp only [List.set_cons_succ]
        try simp only [List.set_cons_zero]
        refine wpAnyL_move (oi := ⟨some 99, _, _, _, _, _⟩) 25 ?_ rfl (by kernel_rfl) (by kernel_rfl) (by kernel_rfl) (by kernel_rfl) (fun _ _ _ h => h) (by kernel_rfl) ?_ (HHK.out _ _ HDw16.out) ?_
        rotate_left
        · intro W'; go_simp; first | done | with_reducible rfl
        try simp only [Act.put]
        try simp only [List.setIfInBounds_toArray]
        try simp only [List.set_cons_succ]
        try simp only [List.set_cons_zero]
        refine wpAnyL_take (oi := ⟨some 100, _, _, _, _, _⟩) 26 28 (mtV i1.F i1.R i1.C (.slice D9 i1.l.length c9)) _ rfl (by kernel_rfl) (by kernel_rfl) (by kernel_rfl) (by kernel_rfl) (by kernel_rfl) (by kernel_rfl) (.tail _ (.tail _ (.tail _ (.tail _ (.head _))))) (fun _ _ _ h => h) (by kernel_rfl) (fun W' hW' => exec_ld rfl (ld_mt hW')) (HHK.out _ _ HDw16.out) ?_
        try simp only [Act.put]
        try simp only [List.setIfInBounds_toArray]
        try simp only [List.set_cons_succ]
        try simp only [List.set_cons_zero]
        refine wpAnyL_take (oi := ⟨some 101, _, _, _, _, _⟩) 27 28 (mtV i1.F i1.R i1.C (.slice D5 i1.l.length c5)) _ rfl (by kernel_rfl) (by kernel_rfl) (by kernel_rfl) (by kernel_rfl) (by kernel_rfl) (by kernel_rfl) (.tail _ (.tail _ (.tail _ (.tail _ (.tail _ (.head _)))))) (fun _ _ _ h => h) (by kernel_rfl) (fun W' hW' => exec_ld rfl (ld_mt hW')) (HHK.out _ _ HDw16.out) ?_
        try simp only [Act.put]
        try simp only [List.setIfInBounds_toArray]
        try simp only [List.set_cons_succ]
        try simp only [List.set_cons_zero]
        refine wpAnyL_one (o := ⟨some 102, _, _, _, _, _⟩) 28 (by kernel_rfl) rfl (fun K hK => ?_)
        go_wp2_with fail
        refine (rsame_any i1 i1 _ _ _ _ w16 HQ10w16.out.mat HQ6w16.out.mat (Nat.le_trans HLI.out (by decide))).mono ?_
        rintro e w17 ⟨rfl, hb⟩
        rw [sameM_self]
        have HDw17 := hideIt (ls6 HDw16.out hb)
        have HLw17 := hideIt (ls6 HLw16.out hb)
        have HQ1w17 := hideIt (HQ1w16.out.keep hb)
        have HQ4w17 := hideIt (HQ4w16.out.keep hb)
        have HQ6w17 := hideIt (HQ6w16.out.keep hb)
        have HQ8w17 := hideIt (HQ8w16.out.keep hb)
        have HQ10w17 := hideIt (HQ10w16.out.keep hb)
        have HQ12w17 := hideIt (HQ12w16.out.keep hb)
        clear hb HQ1w16 HQ4w16 HQ6w16 HQ8w16 HQ10w16 HQ12w16  HLw16
        go_wp2_with fail
        refine hK _ _ (HHK.out _ _ HDw17.out) ?_
        clear hK K
        refine wpAnyL_move (oi := ⟨some 103, _, _, _, _, _⟩) 29 ?_ rfl (by kernel_rfl) (by kernel_rfl) (by kernel_rfl) (by kernel_rfl) (fun _ _ _ h => h) (by kernel_rfl) ?_ (HHK.out _ _ HDw17.out) ?_
        rotate_left
        · intro W'; go_simp; first | done | with_reducible rfl
        try simp only [Act.put]
        try simp only [List.setIfInBounds_toArray]
        try simp only [List.set_cons_succ]
        try simp only [List.set_cons_zero]
        refine wpAnyL_move (oi := ⟨some 104, _, _, _, _, _⟩) 30 ?_ rfl (by kernel_rfl) (by kernel_rfl) (by kernel_rfl) (by kernel_rfl) (fun _ _ _ h => h) (by kernel_rfl) ?_ (HHK.out _ _ HDw17.out) ?_
        rotate_left
        · intro W'; go_simp; first | done | with_reducible rfl
        try simp only [Act.put]
        try simp only [List.setIfInBounds_toArray]
        try simp only [List.set_cons_succ]
        try simp only [List.set_cons_zero]
        refine wpAnyL_take (oi := ⟨some 105, _, _, _, _, _⟩) 31 33 (mtV a0.F a0.R a0.C (.slice D11 a0.l.length c11)) _ rfl (by kernel_rfl) (by kernel_rfl) (by kernel_rfl) (by kernel_rfl) (by kernel_rfl) (by kernel_rfl) (.tail _ (.tail _ (.tail _ (.tail _ (.tail _ (.tail _ (.head _))))))) (fun _ _ _ h => h) (by kernel_rfl) (fun W' hW' => exec_ld rfl (ld_mt hW')) (HHK.out _ _ HDw17.out) ?_
        try simp only [Act.put]
        try simp only [List.setIfInBounds_toArray]
        try simp only [List.set_cons_succ]
        try simp only [List.set_cons_zero]
        refine wpAnyL_take (oi := ⟨some 106, _, _, _, _, _⟩) 32 33 (mtV a0.F a0.R a0.C (.slice A0 a0.l.length c0)) _ rfl (by kernel_rfl) (by kernel_rfl) (by kernel_rfl) (by kernel_rfl) (by kernel_rfl) (by kernel_rfl) (.tail _ (.tail _ (.tail _ (.tail _ (.tail _ (.tail _ (.tail _ (.head _)))))))) (fun _ _ _ h => h) (by kernel_rfl) (fun W' hW' => exec_ld rfl (ld_mt hW')) (HHK.out _ _ HDw17.out) ?_
        try simp only [Act.put]
        try simp only [List.setIfInBounds_toArray]
        try simp only [List.set_cons_succ]
        try simp only [List.set_cons_zero]
        refine wpAnyL_one (o := ⟨some 107, _, _, _, _, _⟩) 33 (by kernel_rfl) rfl (fun K hK => ?_)
        go_wp2_with fail
        refine (rsame_any a0 a0 _ _ _ _ w17 HQ12w17.out.mat HQ1w17.out.mat (Nat.le_trans HLA.out (by decide))).mono ?_
        rintro e w18 ⟨rfl, hb⟩
        rw [sameM_self]
        have HDw18 := hideIt (ls6 HDw17.out hb)
        have HLw18 := hideIt (ls6 HLw17.out hb)
        have HQ1w18 := hideIt (HQ1w17.out.keep hb)
        have HQ4w18 := hideIt (HQ4w17.out.keep hb)
        have HQ6w18 := hideIt (HQ6w17.out.keep hb)
        have HQ8w18 := hideIt (HQ8w17.out.keep hb)
        have HQ10w18 := hideIt (HQ10w17.out.keep hb)
        have HQ12w18 := hideIt (HQ12w17.out.keep hb)
        clear hb HQ1w17 HQ4w17 HQ6w17 HQ8w17 HQ10w17 HQ12w17  HLw17
        go_wp2_with fail
        refine hK _ _ (HHK.out _ _ HDw18.out) ?_
        clear hK K
        refine loads_tail 34 (by kernel_rfl) (by kernel_rfl) (by kernel_rfl) (by kernel_rfl) ?_
        simp only [List.drop_succ_cons, List.drop_zero]
        go_wp2_with fail
        go_ret
        exact ⟨rfl, HLw18.out⟩
      · obtain ⟨h10, hlt⟩ := inv_bad HV.out HRC.out HR1.out he
        have hq1 := int_neqT6 27 he
        subst h10
        have hqe := int_eqlT 27 (a := (10 : Int)) (b := 10) rfl
        obtain ⟨k, hk⟩ : ∃ k, rankM a0 = k := ⟨_, rfl⟩
        rw [hk] at hlt
        have HK := hideIt hk
        clear hk he
        go_upto_region 6 with fail
        have HHK : Hid (∀ W' bt, Below w4.heap.size w4 W' → Hooks [(7, fun W => Blk W w.heap.size 24 (mtC a0.F a0.R a0.C (.slice A0 a0.l.length c0))), (10, fun W => W.cell? ⟨w.heap.size, 1, none⟩ = some (.int .i64 a0.R))] bt W') := hideIt (fun W' bt hb' => Hooks.add (HQ1w4.out.box.kept hb' HQ1w4.out.box.lt) (Hooks.add ((HQ1w4.out.box.kept hb' HQ1w4.out.box.lt).cell 1) (Hooks.nil _ _)))
        have hb : Below w4.heap.size w4 w4.drew := (Below.refl _ _).drew
        refine loads_begin_n 13 [(7, fun W => Blk W w.heap.size 24 (mtC a0.F a0.R a0.C (.slice A0 a0.l.length c0))), (10, fun W => W.cell? ⟨w.heap.size, 1, none⟩ = some (.int .i64 a0.R))] rfl (by kernel_rfl) ?_
        generalize w4.drew = w5 at *
        have HDw5 := hideIt hb
        have HLw5 := hideIt (ls6 HLw4.out hb)
        have HQ1w5 := hideIt (HQ1w4.out.keep hb)
        have HQ4w5 := hideIt (HQ4w4.out.keep hb)
        clear hb HQ1w4 HQ4w4  HLw4
        refine wpAnyL_one (o := ⟨some 37, _, _, _, _, _⟩) 0 (by kernel_rfl) rfl (fun K hK => ?_)
        go_wp2_with fail
        refine (sanity_any w5 (HT.out.keep HLw5.out)).mono ?_
        rintro e w6 ⟨rfl, hb⟩
        have HDw6 := hideIt (ls6 HDw5.out hb)
        have HLw6 := hideIt (ls6 HLw5.out hb)
        have HQ1w6 := hideIt (HQ1w5.out.keep hb)
        have HQ4w6 := hideIt (HQ4w5.out.keep hb)
        clear hb HQ1w5 HQ4w5  HLw5
        go_wp2_with fail
        refine hK _ _ (HHK.out _ _ HDw6.out) ?_
        clear hK K
        refine wpAnyL_move (oi := ⟨some 38, _, _, _, _, _⟩) 1 ?_ rfl (by kernel_rfl) (by kernel_rfl) (by kernel_rfl) (by kernel_rfl) (fun _ _ _ h => h) (by kernel_rfl) ?_ (HHK.out _ _ HDw6.out) ?_
        rotate_left
        · intro W'; go_simp; first | done | with_reducible rfl
        try simp only [Act.put]
        try simp only [List.setIfInBounds_toArray]
        try simp only [List.set_cons_succ]
        try simp only [List.set_cons_zero]
        refine wpAnyL_move (oi := ⟨some 39, _, _, _, _, _⟩) 2 ?_ rfl (by kernel_rfl) (by kernel_rfl) (by kernel_rfl) (by kernel_rfl) (fun _ _ _ h => h) (by kernel_rfl) ?_ (HHK.out _ _ HDw6.out) ?_
        rotate_left
        · intro W'; go_simp; first | done | with_reducible rfl
        try simp only [Act.put]
        try simp only [List.setIfInBounds_toArray]
        try simp only [List.set_cons_succ]
        try simp only [List.set_cons_zero]
        refine wpAnyL_move (oi := ⟨some 40, _, _, _, _, _⟩) 3 ?_ rfl (by kernel_rfl) (by kernel_rfl) (by kernel_rfl) (by kernel_rfl) (fun _ _ _ h => h) (by kernel_rfl) ?_ (HHK.out _ _ HDw6.out) ?_
        rotate_left
        · intro W'; go_simp; first | done | with_reducible rfl
        try simp only [Act.put]
        try simp only [List.setIfInBounds_toArray]
        try simp only [List.set_cons_succ]
        try simp only [List.set_cons_zero]
        refine wpAnyL_move (oi := ⟨some 41, _, _, _, _, _⟩) 4 ?_ rfl (by kernel_rfl) (by kernel_rfl) (by kernel_rfl) (by kernel_rfl) (fun _ _ _ h => h) (by kernel_rfl) ?_ (HHK.out _ _ HDw6.out) ?_
        rotate_left
        · intro W'; go_simp; first | done | with_reducible rfl
        try simp only [Act.put]
        try simp only [List.setIfInBounds_toArray]
        try simp only [List.set_cons_succ]
        try simp only [List.set_cons_zero]
        refine wpAnyL_move (oi := ⟨some 42, _, _, _, _, _⟩) 5 ?_ rfl (by kernel_rfl) (by kernel_rfl) (by kernel_rfl) (by kernel_rfl) (fun _ _ _ h => h) (by kernel_rfl) ?_ (HHK.out _ _ HDw6.out) ?_
        rotate_left
        · intro W'; go_simp; first | done | with_reducible rfl
        try simp only [Act.put]
        try simp only [List.setIfInBounds_toArray]
        try simp only [List.set_cons_succ]
        try simp only [List.set_cons_zero]
        refine wpAnyL_take (oi := ⟨some 43, _, _, _, _, _⟩) 6 7 (mtV a0.F a0.R a0.C (.slice A0 a0.l.length c0)) _ rfl (by kernel_rfl) (by kernel_rfl) (by kernel_rfl) (by kernel_rfl) (by kernel_rfl) (by kernel_rfl) (.head _) (fun _ _ _ h => h) (by kernel_rfl) (fun W' hW' => exec_ld rfl (ld_mt hW')) (HHK.out _ _ HDw6.out) ?_
        try simp only [Act.put]
        try simp only [List.setIfInBounds_toArray]
        try simp only [List.set_cons_succ]
        try simp only [List.set_cons_zero]
        refine wpAnyL_move (oi := ⟨some 45, _, _, _, _, _⟩) 8 ?_ rfl (by kernel_rfl) (by kernel_rfl) (by kernel_rfl) (by kernel_rfl) (fun _ _ _ h => h) (by kernel_rfl) ?_ (HHK.out _ _ HDw6.out) ?_
        rotate_left
        · intro W'; go_simp; first | done | with_reducible rfl
        try simp only [Act.put]
        try simp only [List.setIfInBounds_toArray]
        try simp only [List.set_cons_succ]
        try simp only [List.set_cons_zero]
        refine wpAnyL_take (oi := ⟨some 46, _, _, _, _, _⟩) 9 10 (.int .i64 a0.R) _ rfl (by kernel_rfl) (by kernel_rfl) (by kernel_rfl) (by kernel_rfl) (by kernel_rfl) (by kernel_rfl) (.tail _ (.head _)) (fun _ _ _ h => h) (by kernel_rfl) (fun W' hW' => by have h := hW'; simp [execOp, h, go_sem]) (HHK.out _ _ HDw6.out) ?_
        try simp only [Act.put]
        try simp only [List.setIfInBounds_toArray]
        try simp only [List.set_cons_succ]
        try simp only [List.set_cons_zero]
        refine wpAnyL_one (o := ⟨some 44, _, _, _, _, _⟩) 7 (by kernel_rfl) rfl (fun K hK => ?_)
        go_wp2_with fail
        refine (rank_any a0 _ _ w6 (HT.out.keep HLw6.out) HQ1w6.out.mat).mono ?_
        rintro e w7 ⟨rfl, hb⟩
        rw [HK.out]
        have HDw7 := hideIt (ls6 HDw6.out hb)
        have HLw7 := hideIt (ls6 HLw6.out hb)
        have HQ1w7 := hideIt (HQ1w6.out.keep hb)
        have HQ4w7 := hideIt (HQ4w6.out.keep hb)
        clear hb HQ1w6 HQ4w6  HLw6
        go_wp2_with fail
        refine hK _ _ (HHK.out _ _ HDw7.out) ?_
        clear hK K
        refine loads_tail 10 (by kernel_rfl) (by kernel_rfl) (by kernel_rfl) (by kernel_rfl) ?_
        simp only [List.drop_succ_cons, List.drop_zero]
        go_wp2_with fail
        go_ret
        exact ⟨rfl, HLw7.out⟩
    · have hq := int_neqT6 3 hRC
      clear hRC
      have cf11 := HQ1wc.out.box.cell 1
      have cf12 := HQ1wc.out.box.cell 2
      go_upto_region 3 with fail
      clear cf11 cf12
      go_wp2_with fail
      refine (sanity_any wc (HT.out.keep HLwc.out)).mono ?_
      rintro e w3 ⟨rfl, hb⟩
      have HLw3 := hideIt (ls6 HLwc.out hb)
      have HQ1w3 := hideIt (HQ1wc.out.keep hb)
      clear hb HQ1wc  HLwc
      go_wp2_with fail
      go_ret
      exact ⟨rfl, HLw3.out⟩

end Go.Proofs.YtodmcojcmihooaaDoor.matrixInverts
