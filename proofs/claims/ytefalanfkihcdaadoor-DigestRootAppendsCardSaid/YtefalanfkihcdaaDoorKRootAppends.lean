/-
  The walk of the law: For every non-empty list of at most 60 digests and every further digest, the prefix proof of the longer list verifies for the roots of both lists, and for another old root only if the specification accepts that one too; the root of the empty list is the digest of the leaf tag alone.
-/
import Derived.Test.YtefalanfkihcdaaDoorSan2
import Derived.Test.YtefalanfkihcdaaDoorPair2
import Derived.Test.YtefalanfkihcdaaDoorRPair
import Derived.Test.YtefalanfkihcdaaDoorFork
import Derived.Test.YtefalanfkihcdaaDoorArgD
namespace Go.Proofs.YtefalanfkihcdaaDoor.digestRootAppends
open Go.RowKit
set_option linter.unusedVariables false

set_option maxHeartbeats 3000000 in
set_option maxRecDepth 100000 in
theorem walk (A0 : Option Addr) (c0 : Nat) (l0 : List (List UInt8)) (d1 : List UInt8) (d2 : List UInt8) (w : World) (x0 : Ds w w.heap.size A0 l0.length l0) (m0 : l0.length ≤ c0) (k0 : c0 ≤ maxLen) (s0 : l0.length ≤ 140737488351232) (w1 : d1.length = 16) (w2 : d2.length = 16) (T0 : Tab w 0) (T1 : Tab w 1) :
    Calls Tryd.prog 9 #[.slice A0 l0.length c0, dv d1, dv d2] w fun e w' => e = .returned (.bool true) ∧ Below w.heap.size w w' := by
  have HS := hideIt (fun (W : World) (hb : Below w.heap.size w W) => sanity_any W (T1.keep hb))
  have hz1 : (w.alloc (.cells (d1.map bv).toArray 30)).heap.size = w.heap.size + 1 := by simp
  have HB0 := hideIt ((below_new w (.cells (d1.map bv).toArray 30)).alloc (by rw [hz1]; omega) (.cells (d2.map bv).toArray 30))
  have HK0 := hideIt ((Blk.new w 30 (d1.map bv)).alloc (.cells (d2.map bv).toArray 30))
  have HK1 : Hid (Blk ((w.alloc (.cells (d1.map bv).toArray 30)).alloc (.cells (d2.map bv).toArray 30)) (w.heap.size + 1) 30 (d2.map bv)) := hz1 ▸ Blk.new (w.alloc (.cells (d1.map bv).toArray 30)) 30 (d2.map bv)
  clear hz1
  by_cases hbig : 60 < l0.length ∨ l0.length = 0
  · have HR : Hid (∀ W, Below w.heap.size w W → Calls Tryd.prog 19 #[.slice none 0 0] W fun e w' => e = .returned (dv (cutD (msgB 1 []))) ∧ Below W.heap.size W w') := hideIt (fun W hb => by have h := root_any 0 [] none w.heap.size 0 0 W (Nat.le_refl _) (by omega) ⟨rfl, by simp, Sl.nil _ _ _ _⟩ (Nat.le_refl _) hb.size (T1.keep hb); rw [rootD_nil] at h; exact h)
    have HO : Hid (∀ W, Below w.heap.size w W → Calls Tryd.prog 14 #[.int .i64 1, .slice none 0 0] W fun e w' => e = .returned (dv (cutD (msgB 1 []))) ∧ Below W.heap.size W w') := hideIt (fun W hb => refOf_any none w.heap.size 0 1 [] W (Sl.nil _ _ _ _) (by simp) (by simp) hb.size (T0.keep hb))
    obtain ⟨r, hr⟩ : ∃ r, r = cutD (msgB 1 []) := ⟨_, rfl⟩
    have hrl : r.length = 16 := by rw [hr]; exact cutD_len _
    rw [← hr] at HR HO
    have heq := equal_digest r r hrl hrl
    rw [decide_eq_true rfl] at heq
    obtain ⟨n, hn⟩ : ∃ n, n = l0.length := ⟨_, rfl⟩
    rw [← hn] at hbig ⊢
    clear hr hrl x0 T0 T1 m0 s0 w1 w2 hn
    by_cases h6 : 60 < n
    · clear hbig
      go_enter Tryd.func9, Tryd.ntmps9
      go_wp2_with (first
        | (go_at_call 10; refine (HS.out _ HB0.out).mono ?_; rintro e wa ⟨rfl, hb⟩; have HB1 := hideIt (HB0.out.trans (hb.mono HB0.out.size)); clear hb)
        | (go_at_call 19; refine (HR.out _ HB1.out).mono ?_; rintro e wb ⟨rfl, hb⟩; have HB2 := hideIt (HB1.out.trans (hb.mono HB1.out.size)); clear hb)
        | (go_at_call 14; refine (HO.out _ HB2.out).mono ?_; rintro e wc ⟨rfl, hb⟩; have HB3 := hideIt (HB2.out.trans (hb.mono HB2.out.size)); clear hb))
      go_ret
      exact ⟨rfl, HB3.out⟩
    · obtain rfl : n = 0 := by omega
      clear hbig h6
      go_enter Tryd.func9, Tryd.ntmps9
      go_wp2_with (first
        | (go_at_call 10; refine (HS.out _ HB0.out).mono ?_; rintro e wa ⟨rfl, hb⟩; have HB1 := hideIt (HB0.out.trans (hb.mono HB0.out.size)); clear hb)
        | (go_at_call 19; refine (HR.out _ HB1.out).mono ?_; rintro e wb ⟨rfl, hb⟩; have HB2 := hideIt (HB1.out.trans (hb.mono HB1.out.size)); clear hb)
        | (go_at_call 14; refine (HO.out _ HB2.out).mono ?_; rintro e wc ⟨rfl, hb⟩; have HB3 := hideIt (HB2.out.trans (hb.mono HB2.out.size)); clear hb))
      go_ret
      exact ⟨rfl, HB3.out⟩
  · have h60 : l0.length ≤ 60 := by omega
    have h10 : 1 ≤ l0.length := by omega
    have ht1 : decide ((60 : Int) < (l0.length : Int)) = false := by simp; omega
    have ht2 : ((l0.length : Int) == 0) = false := by simp; intro h; rw [h] at h10; simp at h10
    have hl16 := x0.2.1
    have X0 := hideIt x0
    have D1 := hideIt w1
    have D2 := hideIt w2
    obtain ⟨N, hN⟩ : ∃ N, N = l0.length + 1 := ⟨_, rfl⟩
    have hLL : (l0 ++ [d1]).length = N := by rw [hN]; simp
    have hflat : (l0 ++ [d1]).flatten.map bv = l0.flatten.map bv ++ d1.map bv := by simp
    have h16 : ∀ d ∈ l0 ++ [d1], d.length = 16 := by
      intro d hd
      rcases List.mem_append.1 hd with h | h
      · exact hl16 d h
      · rw [List.mem_singleton] at h; rw [h]; exact w1
    have HR1 := hideIt (fun (W : World) (hb : Below w.heap.size w W) => root_any l0.length l0 A0 w.heap.size l0.length c0 W (Nat.le_refl _) (by omega) (x0.below hb (Nat.le_refl _)) m0 hb.size (T1.keep hb))
    have HR2 := hideIt (fun (W : World) (A : Option Addr) (c : Nat) (hb : Below w.heap.size w W) (h : Ds W W.heap.size A N (l0 ++ [d1])) (hc : N ≤ c) => root_any N (l0 ++ [d1]) A W.heap.size N c W (Nat.le_refl _) (by omega) h hc (Nat.le_refl _) (T1.keep hb))
    have HPP := hideIt (fun (W : World) (A : Option Addr) (c : Nat) (hb : Below w.heap.size w W) (h : Ds W W.heap.size A N (l0 ++ [d1])) (hc : N ≤ c) => pp_any (l0 ++ [d1]) A W.heap.size N c l0.length W (by omega) h hc (Nat.le_refl _) (T1.keep hb) h10 (by omega))
    have hacc := vpB_accept (l0 ++ [d1]) l0.length h10 (by omega) (by omega)
    rw [List.take_left, hLL] at hacc
    have hql := subD_len 30 (l0 ++ [d1]) l0.length true (by omega)
    have hq16 := subD_16 (l0 ++ [d1]) 30 l0.length true (by omega)
    have hr1 := rootD_len l0
    have hr2 := rootD_len (l0 ++ [d1])
    generalize subD (l0 ++ [d1]) l0.length true = Q at *
    generalize rootD (l0 ++ [d1]) = r2 at *
    generalize rootD l0 = r1 at *
    have HV1 := hideIt (fun (W : World) (A : Option Addr) (c : Nat) (hb : Below w.heap.size w W) (h : Ds W W.heap.size A Q.length Q) (hc : Q.length ≤ c) => vp_any r1 r2 hr1 hr2 (l0.length : Int) (N : Int) (by omega) A c Q W h hc (by omega) (T1.keep hb))
    rw [hacc] at HV1
    have HV2 := hideIt (fun (W : World) (A : Option Addr) (c : Nat) (hb : Below w.heap.size w W) (h : Ds W W.heap.size A Q.length Q) (hc : Q.length ≤ c) => vp_any d2 r2 w2 hr2 (l0.length : Int) (N : Int) (by omega) A c Q W h hc (by omega) (T1.keep hb))
    have HV3 := hideIt (fun (W : World) (A : Option Addr) (c : Nat) (hb : Below w.heap.size w W) (h : Ds W W.heap.size A Q.length Q) (hc : Q.length ≤ c) => rvp_any d2 r2 w2 hr2 (l0.length : Int) (N : Int) (by omega) A c Q W h hc (by omega) (T0.keep hb))
    have hbb : d2 = r1 → vpB false d2 r2 (l0.length : Int) (N : Int) Q = true := fun h => by rw [h]; exact hacc
    generalize vpB false d2 r2 (l0.length : Int) (N : Int) Q = b at *
    have HEQ := hideIt (equal_digest d2 r1 w2 hr1)
    have HBB := hideIt hbb
    have R1L := hideIt hr1
    have R2L := hideIt hr2
    have Q16 := hideIt hq16
    have L16 := hideIt h16
    have HFL := hideIt hflat
    have HLL := hideIt hLL
    have HN := hideIt hN
    have hN9 : N ≤ 61 := by omega
    obtain ⟨i0, hi0, hz0, hz1, hz2⟩ := info_parts Tryd.infoDig
    have I0 := hideIt hi0
    have Z0 := hideIt hz0
    have Z1 := hideIt hz1
    have Z2 := hideIt hz2
    clear hN hi0 hz0 hz1 hz2 hbb hacc hq16 h16 hflat hLL hr1 hr2 x0 w1 w2 T0 T1 hl16 hbig
    go_enter Tryd.func9, Tryd.ntmps9
    go_wp2_with (go_at_call 10; refine (HS.out _ HB0.out).mono ?_; rintro e wa ⟨rfl, hb⟩; have HB1 := hideIt (HB0.out.trans (hb.mono HB0.out.size)); have HK01 := hideIt (HK0.out.kept hb HK0.out.lt); have HK11 := hideIt (HK1.out.kept hb HK1.out.lt); clear hb)
    have hbs : Below w.heap.size w wa.drew := HB1.out.drew
    have hk0 : Blk wa.drew w.heap.size 30 (d1.map bv) := HK01.out
    have hk1 : Blk wa.drew (w.heap.size + 1) 30 (d2.map bv) := HK11.out
    refine once_begin (fun W' => Blk W' w.heap.size 30 (d1.map bv)) 6 (by kernel_rfl) ?_
    generalize wa.drew = W0 at hbs hk0 hk1 ⊢
    clear HB1 HK01 HK11 HK0 HK1 HB0
    refine wpAnyU_take (oi := ⟨some 32, _, _, _, _, _⟩) 3 (.agg (d1.map bv).toArray) rfl (by kernel_rfl) (by kernel_rfl) (by kernel_rfl) (by kernel_rfl) (by kernel_rfl) (fun _ _ _ h => h) (by kernel_rfl) (fun W' hW' => exec_load_blk rfl rfl hW' (.array 16 5) (by kernel_rfl) rfl (isize16 _ D1.out)) hk0 ?_
    try simp only [Act.put]
    try simp only [List.setIfInBounds_toArray]
    try simp only [List.set_cons_succ]
    try simp only [List.set_cons_zero]
    refine wpAnyU_move (oi := ⟨some 30, _, _, _, _, _⟩) 1 ?_ rfl (by kernel_rfl) (by kernel_rfl) (by kernel_rfl) (by kernel_rfl) (fun _ _ _ h => h) (by kernel_rfl) ?_ (fun _ => hk0) ?_
    rotate_left
    · intro W'; go_simp; first | done | with_reducible rfl
    try simp only [Act.put]
    try simp only [List.setIfInBounds_toArray]
    try simp only [List.set_cons_succ]
    try simp only [List.set_cons_zero]
    have hlt1 := hk1.lt
    have hxs : Sl W0 w.heap.size A0 16 l0.length (l0.flatten.map bv) := (X0.out.below hbs (Nat.le_refl _)).2.2
    refine fork_to 29 31 33 34 8 (fun v W => W.ownsRow W0.heap.size 30 16 v (l0.length + 1) (l0.flatten.map bv ++ d1.map bv) ∧ Below w.heap.size w W ∧ Blk W (w.heap.size + 1) 30 (d2.map bv)) (fun Q' hQ' => ?_) (fun x1 x2 x3 v W hR => ?_)
    · have hQQ := hideIt hQ'
      clear hQ'
      have hs0 := hbs.size
      have hl0 := hk0.lt
      refine wpAnyU_two 0 4 (by kernel_rfl) rfl rfl (fun K hK => ?_) (fun K hK => ?_)
      · go_wp2_with fail
        refine hK _ _ (fun _ => hk0.alloc _) ?_
        clear hK K
        have ho := own_empty W0 30 16
        have hb1 := hbs.alloc hs0 (.cells #[] 30)
        have hu1 : W0.heap.size < (W0.alloc (.cells #[] 30)).heap.size := by simp
        have hk01 := hk0.alloc (.cells #[] 30)
        have hk11 := hk1.alloc (.cells #[] 30)
        generalize W0.alloc (.cells #[] 30) = U1 at *
        refine wpAnyU_two 2 4 (by kernel_rfl) rfl rfl (fun K hK => ?_) (fun K hK => ?_)
        · refine wpList_app2 rfl (.tmp 29) (.tmp 30) 34 rfl W0.heap.size 30 i0 (.agg (List.replicate 16 (.int .u8 0)).toArray) 16 16 Tryd.underlying34 I0.out Z0.out Z1.out Z2.out rfl (by decide) (.slice (some ⟨W0.heap.size, 0, none⟩) 0 0) 0 [] rfl ho w.heap.size A0 l0.length c0 (l0.flatten.map bv) rfl (X0.out.below hb1 (Nat.le_refl _)).2.2 (bv_one _) (by unfold maxLen; omega) (by omega) (by omega) ?_
          intro v2 w2 ho2 hg2
          rw [Nat.zero_add, List.nil_append] at ho2
          have hb2 := below_app hb1 ho hg2 (by omega) (by omega)
          have h02 := blk_app ho hg2 hk01 (by omega)
          have h12 := blk_app ho hg2 hk11 (by omega)
          have hs2 := hg2.size
          refine hK _ _ (fun _ => h02) ?_
          clear hK K
          try simp only [Act.put]
          try simp only [List.setIfInBounds_toArray]
          try simp only [List.set_cons_succ]
          try simp only [List.set_cons_zero]
          refine wpAnyU_one 4 (by kernel_rfl) rfl (fun K hK => ?_)
          refine wpList_buildSlice rfl 34 30 1 #[(0, .tmp 32)] rfl (d1.map bv).toArray i0 (.agg (List.replicate 16 (.int .u8 0)).toArray) Tryd.underlying34 I0.out Z0.out (by rw [Z1.out]; omega) (by rw [Z1.out]; omega) (by rw [Z1.out, Array.toList_map]; exact fill_dig _ d1 D1.out (by simp)) ?_
          refine hK _ _ (fun _ => h02.alloc _) ?_
          clear hK K
          try simp only [Act.put]
          try simp only [List.setIfInBounds_toArray]
          try simp only [List.set_cons_succ]
          try simp only [List.set_cons_zero]

          refine wpAnyU_one 5 (by kernel_rfl) rfl (fun K hK => ?_)
          refine wpList_app2 rfl (.tmp 31) (.tmp 33) 34 rfl W0.heap.size 30 i0 (.agg (List.replicate 16 (.int .u8 0)).toArray) 16 16 Tryd.underlying34 I0.out Z0.out Z1.out Z2.out rfl (by decide) v2 l0.length (l0.flatten.map bv) rfl (ho2.alloc _) (w2.heap.size + 1) _ 1 1 (d1.map bv) rfl (sl_dig w2 d1 D1.out) (bv_one _) (by unfold maxLen; omega) (by omega) (by simp; omega) ?_
          intro v3 w3 ho3 hg3
          have hb3 := below_app (hb2.alloc (by omega) (.cells (d1.map bv).toArray 30)) (ho2.alloc (.cells (d1.map bv).toArray 30)) hg3 (by omega) (by simp; omega)
          have h03 := blk_app (ho2.alloc (.cells (d1.map bv).toArray 30)) hg3 (h02.alloc _) (by omega)
          have h13 := blk_app (ho2.alloc (.cells (d1.map bv).toArray 30)) hg3 (h12.alloc _) (by omega)
          refine hK _ _ (fun _ => h03) ?_
          clear hK K
          try simp only [Act.put]
          try simp only [List.setIfInBounds_toArray]
          try simp only [List.set_cons_succ]
          try simp only [List.set_cons_zero]
          refine wpAnyU_one 6 (by kernel_rfl) rfl (fun K hK => ?_)
          go_wp2_with fail
          refine hK _ _ (fun _ => h03) ?_
          clear hK K
          have hfin := hQQ.out (.slice (some ⟨W0.heap.size, 0, none⟩) 0 0) v2 (.slice (some ⟨w2.heap.size, 0, none⟩) 1 1) v3 w3 ⟨ho3, hb3, h13⟩
          simp only [Act.put, List.setIfInBounds_toArray, List.set_cons_succ, List.set_cons_zero] at hfin
          exact wpAnyU_done (by kernel_rfl) hfin
        · refine wpList_buildSlice rfl 34 30 1 #[(0, .tmp 32)] rfl (d1.map bv).toArray i0 (.agg (List.replicate 16 (.int .u8 0)).toArray) Tryd.underlying34 I0.out Z0.out (by rw [Z1.out]; omega) (by rw [Z1.out]; omega) (by rw [Z1.out, Array.toList_map]; exact fill_dig _ d1 D1.out (by simp)) ?_
          refine hK _ _ (fun _ => hk01.alloc _) ?_
          clear hK K
          try simp only [Act.put]
          try simp only [List.setIfInBounds_toArray]
          try simp only [List.set_cons_succ]
          try simp only [List.set_cons_zero]
          have hlit : Blk (U1.alloc (.cells (d1.map bv).toArray 30)) U1.heap.size 30 (d1.map bv) := Blk.new U1 _ _
          have hb2 := hb1.alloc (by omega) (.cells (d1.map bv).toArray 30)
          have hu2 : U1.heap.size < (U1.alloc (.cells (d1.map bv).toArray 30)).heap.size := by simp
          have hk02 := hk01.alloc (.cells (d1.map bv).toArray 30)
          have hk12 := hk11.alloc (.cells (d1.map bv).toArray 30)
          replace ho := ho.alloc (.cells (d1.map bv).toArray 30)
          generalize U1.alloc (.cells (d1.map bv).toArray 30) = U2 at *
          refine wpAnyU_one 2 (by kernel_rfl) rfl (fun K hK => ?_)
          refine wpList_app2 rfl (.tmp 29) (.tmp 30) 34 rfl W0.heap.size 30 i0 (.agg (List.replicate 16 (.int .u8 0)).toArray) 16 16 Tryd.underlying34 I0.out Z0.out Z1.out Z2.out rfl (by decide) (.slice (some ⟨W0.heap.size, 0, none⟩) 0 0) 0 [] rfl ho w.heap.size A0 l0.length c0 (l0.flatten.map bv) rfl (X0.out.below hb2 (Nat.le_refl _)).2.2 (bv_one _) (by unfold maxLen; omega) (by omega) (by omega) ?_
          intro v2 w2 ho2 hg2
          rw [Nat.zero_add, List.nil_append] at ho2
          have hb3' := below_app hb2 ho hg2 (by omega) (by omega)
          have h02 := blk_app ho hg2 hk02 (by omega)
          have h12 := blk_app ho hg2 hk12 (by omega)
          have hl2 := hlit.grown hg2 (fun h => by have h' : U1.heap.size = W0.heap.size := Option.some.inj h; omega)
          have hs2 := hg2.size
          have hll := hl2.lt
          refine hK _ _ (fun _ => h02) ?_
          clear hK K
          try simp only [Act.put]
          try simp only [List.setIfInBounds_toArray]
          try simp only [List.set_cons_succ]
          try simp only [List.set_cons_zero]
          refine wpAnyU_one 5 (by kernel_rfl) rfl (fun K hK => ?_)
          refine wpList_app2 rfl (.tmp 31) (.tmp 33) 34 rfl W0.heap.size 30 i0 (.agg (List.replicate 16 (.int .u8 0)).toArray) 16 16 Tryd.underlying34 I0.out Z0.out Z1.out Z2.out rfl (by decide) v2 l0.length (l0.flatten.map bv) rfl ho2 w2.heap.size _ 1 1 (d1.map bv) rfl (blk_sl16 hl2 D1.out hll) (bv_one _) (by unfold maxLen; omega) (by omega) (by omega) ?_
          intro v3 w3 ho3 hg3
          have hb3 := below_app hb3' ho2 hg3 (by omega) (by omega)
          have h03 := blk_app ho2 hg3 h02 (by omega)
          have h13 := blk_app ho2 hg3 h12 (by omega)
          refine hK _ _ (fun _ => h03) ?_
          clear hK K
          try simp only [Act.put]
          try simp only [List.setIfInBounds_toArray]
          try simp only [List.set_cons_succ]
          try simp only [List.set_cons_zero]
          refine wpAnyU_one 6 (by kernel_rfl) rfl (fun K hK => ?_)
          go_wp2_with fail
          refine hK _ _ (fun _ => h03) ?_
          clear hK K
          have hfin := hQQ.out (.slice (some ⟨W0.heap.size, 0, none⟩) 0 0) v2 (.slice (some ⟨U1.heap.size, 0, none⟩) 1 1) v3 w3 ⟨ho3, hb3, h13⟩
          simp only [Act.put, List.setIfInBounds_toArray, List.set_cons_succ, List.set_cons_zero] at hfin
          exact wpAnyU_done (by kernel_rfl) hfin
      · refine wpList_buildSlice rfl 34 30 1 #[(0, .tmp 32)] rfl (d1.map bv).toArray i0 (.agg (List.replicate 16 (.int .u8 0)).toArray) Tryd.underlying34 I0.out Z0.out (by rw [Z1.out]; omega) (by rw [Z1.out]; omega) (by rw [Z1.out, Array.toList_map]; exact fill_dig _ d1 D1.out (by simp)) ?_
        refine hK _ _ (fun _ => hk0.alloc _) ?_
        clear hK K
        try simp only [Act.put]
        try simp only [List.setIfInBounds_toArray]
        try simp only [List.set_cons_succ]
        try simp only [List.set_cons_zero]
        have hlit : Blk (W0.alloc (.cells (d1.map bv).toArray 30)) W0.heap.size 30 (d1.map bv) := Blk.new W0 _ _
        have hb1 := hbs.alloc hs0 (.cells (d1.map bv).toArray 30)
        have hu1 : W0.heap.size < (W0.alloc (.cells (d1.map bv).toArray 30)).heap.size := by simp
        have hk01 := hk0.alloc (.cells (d1.map bv).toArray 30)
        have hk11 := hk1.alloc (.cells (d1.map bv).toArray 30)
        generalize W0.alloc (.cells (d1.map bv).toArray 30) = U1 at *
        refine wpAnyU_one 0 (by kernel_rfl) rfl (fun K hK => ?_)
        go_wp2_with fail
        refine hK _ _ (fun _ => hk01.alloc _) ?_
        clear hK K
        replace hlit := hlit.alloc (.cells #[] 30)
        have ho := own_low (base' := W0.heap.size) (own_empty U1 30 16) (by omega)
        have hb2 := hb1.alloc (by omega) (.cells #[] 30)
        have hu2 : U1.heap.size < (U1.alloc (.cells #[] 30)).heap.size := by simp
        have hk02 := hk01.alloc (.cells #[] 30)
        have hk12 := hk11.alloc (.cells #[] 30)
        generalize U1.alloc (.cells #[] 30) = U2 at *
        refine wpAnyU_one 2 (by kernel_rfl) rfl (fun K hK => ?_)
        refine wpList_app2 rfl (.tmp 29) (.tmp 30) 34 rfl W0.heap.size 30 i0 (.agg (List.replicate 16 (.int .u8 0)).toArray) 16 16 Tryd.underlying34 I0.out Z0.out Z1.out Z2.out rfl (by decide) (.slice (some ⟨U1.heap.size, 0, none⟩) 0 0) 0 [] rfl ho w.heap.size A0 l0.length c0 (l0.flatten.map bv) rfl (X0.out.below hb2 (Nat.le_refl _)).2.2 (bv_one _) (by unfold maxLen; omega) (by omega) (by omega) ?_
        intro v2 w2 ho2 hg2
        rw [Nat.zero_add, List.nil_append] at ho2
        have hb3' := below_app hb2 ho hg2 (by omega) (by omega)
        have h02 := blk_app ho hg2 hk02 (by omega)
        have h12 := blk_app ho hg2 hk12 (by omega)
        have hl2 := hlit.grown hg2 (fun h => by have h' : W0.heap.size = U1.heap.size := Option.some.inj h; omega)
        have hs2 := hg2.size
        have hll := hl2.lt
        refine hK _ _ (fun _ => h02) ?_
        clear hK K
        try simp only [Act.put]
        try simp only [List.setIfInBounds_toArray]
        try simp only [List.set_cons_succ]
        try simp only [List.set_cons_zero]
        refine wpAnyU_one 5 (by kernel_rfl) rfl (fun K hK => ?_)
        refine wpList_app2 rfl (.tmp 31) (.tmp 33) 34 rfl W0.heap.size 30 i0 (.agg (List.replicate 16 (.int .u8 0)).toArray) 16 16 Tryd.underlying34 I0.out Z0.out Z1.out Z2.out rfl (by decide) v2 l0.length (l0.flatten.map bv) rfl ho2 w2.heap.size _ 1 1 (d1.map bv) rfl (blk_sl16 hl2 D1.out hll) (bv_one _) (by unfold maxLen; omega) (by omega) (by omega) ?_
        intro v3 w3 ho3 hg3
        have hb3 := below_app hb3' ho2 hg3 (by omega) (by omega)
        have h03 := blk_app ho2 hg3 h02 (by omega)
        have h13 := blk_app ho2 hg3 h12 (by omega)
        refine hK _ _ (fun _ => h03) ?_
        clear hK K
        try simp only [Act.put]
        try simp only [List.setIfInBounds_toArray]
        try simp only [List.set_cons_succ]
        try simp only [List.set_cons_zero]
        refine wpAnyU_one 6 (by kernel_rfl) rfl (fun K hK => ?_)
        go_wp2_with fail
        refine hK _ _ (fun _ => h03) ?_
        clear hK K
        have hfin := hQQ.out (.slice (some ⟨U1.heap.size, 0, none⟩) 0 0) v2 (.slice (some ⟨W0.heap.size, 0, none⟩) 1 1) v3 w3 ⟨ho3, hb3, h13⟩
        simp only [Act.put, List.setIfInBounds_toArray, List.set_cons_succ, List.set_cons_zero] at hfin
        exact wpAnyU_done (by kernel_rfl) hfin
    · obtain ⟨hown, hbw, hkw⟩ := hR
      rw [← HN.out, ← HFL.out] at hown
      obtain ⟨A8, c8, rfl, hc81, hc82⟩ := own_form hown
      have HB2 := hideIt hbw
      have HK2 := hideIt hkw
      have HD2 : Hid (Ds W W.heap.size A8 N (l0 ++ [d1])) := ⟨HLL.out, L16.out, Sl.of_own hown⟩
      clear hown hbw hkw hxs hlt1 hk0 hk1 hbs X0 D1 HFL HLL L16 I0 Z0 Z1 Z2
      try simp only [Act.put]
      try simp only [List.setIfInBounds_toArray]
      try simp only [List.set_cons_succ]
      try simp only [List.set_cons_zero]
      have heq := HEQ.out
      have hbb := HBB.out
      clear HBB HEQ
      by_cases hdd : d2 = r1
      · rw [decide_eq_true hdd] at heq
        obtain rfl := hbb hdd
        clear hdd hbb
        go_wp2_with (first
          | (go_at_call 19; refine (HR1.out _ HB2.out).mono ?_; rintro e wb ⟨rfl, hb⟩; have HB3 := hideIt (HB2.out.trans (hb.mono HB2.out.size)); have HW3 := hideIt hb; have HK3 := hideIt (HK2.out.kept hb HK2.out.lt); clear hb HR1 HB2 HK2)
          | ((with_reducible refine at_store ?_); refine wpList_put rfl 30 (.tmp 9) (.tmp 36) rfl wb.heap.size (r1.map bv) _ _ rfl rfl (Blk.new wb 30 (List.replicate 16 (Value.int .u8 0))) (by rw [List.length_map, R1L.out]; kernel_rfl) (by rw [List.length_map, R1L.out]; rfl) (bv_one _) ?_; intro wc ht hb; have R94 := hideIt hb; have HK4 := hideIt (ht.blk (HK3.out.alloc _) (by have := HK3.out.lt; omega)); have HB4 := hideIt (ht.below (HB3.out.alloc HB3.out.size (.cells (List.replicate 16 (Value.int .u8 0)).toArray 30)) HB3.out.size); have HW4 := hideIt (ht.below (HW3.out.alloc HW3.out.size (.cells (List.replicate 16 (Value.int .u8 0)).toArray 30)) HW3.out.size); clear ht hb HB3 HK3 HW3)
          | (go_at_call 19; refine (HR2.out _ A8 c8 HB4.out ((HD2.out.below HW4.out (Nat.le_refl _)).wide HW4.out.size) hc81).mono ?_; rintro e wd ⟨rfl, hb⟩; have HB5 := hideIt (HB4.out.trans (hb.mono HB4.out.size)); have HW5 := hideIt (HW4.out.trans (hb.mono HW4.out.size)); have HK5 := hideIt (HK4.out.kept hb HK4.out.lt); have R95 := hideIt (R94.out.kept hb R94.out.lt); clear hb HR2 HB4 HK4 R94 HW4)
          | ((with_reducible refine at_store ?_); refine wpList_put rfl 30 (.tmp 10) (.tmp 38) rfl wd.heap.size (r2.map bv) _ _ rfl rfl (Blk.new wd 30 (List.replicate 16 (Value.int .u8 0))) (by rw [List.length_map, R2L.out]; kernel_rfl) (by rw [List.length_map, R2L.out]; rfl) (bv_one _) ?_; intro we ht hb; have R106 := hideIt hb; have HK6 := hideIt (ht.blk (HK5.out.alloc _) (by have := HK5.out.lt; omega)); have R96 := hideIt (ht.blk (R95.out.alloc _) (by have := R95.out.lt; omega)); have HB6 := hideIt (ht.below (HB5.out.alloc HB5.out.size (.cells (List.replicate 16 (Value.int .u8 0)).toArray 30)) HB5.out.size); have HW6 := hideIt (ht.below (HW5.out.alloc HW5.out.size (.cells (List.replicate 16 (Value.int .u8 0)).toArray 30)) HW5.out.size); clear ht hb HB5 HK5 R95 HW5)
          | (go_at_call 17; refine (HPP.out _ A8 c8 HB6.out ((HD2.out.below HW6.out (Nat.le_refl _)).wide HW6.out.size) hc81).mono ?_; rintro e wf ⟨v7, rfl, hown, hb⟩; obtain ⟨A7, c7, rfl, hc71, hc72⟩ := own_form hown; have HS7 := hideIt (Sl.of_own hown); have HB7 := hideIt (HB6.out.trans (hb.mono HB6.out.size)); have HK7 := hideIt (HK6.out.kept hb HK6.out.lt); have R97 := hideIt (R96.out.kept hb R96.out.lt); have R107 := hideIt (R106.out.kept hb R106.out.lt); clear hown hb HPP HB6 HK6 R96 R106 HW6 HD2)
          | ((with_reducible refine at_load ?_); refine wpList_get_g (by kernel_rfl) 30 (.tmp 9) rfl wb.heap.size (r1.map bv) 30 (.array 16 5) rfl R97.out (by kernel_rfl) rfl (isize16 _ R1L.out) ?_)
          | ((with_reducible refine at_load ?_); refine wpList_get_g (by kernel_rfl) 30 (.tmp 10) rfl wd.heap.size (r2.map bv) 30 (.array 16 5) rfl R107.out (by kernel_rfl) rfl (isize16 _ R2L.out) ?_)
          | (go_at_call 24; refine (HV1.out _ A7 c7 HB7.out ⟨rfl, Q16.out, HS7.out⟩ hc71).mono ?_; rintro e wg ⟨rfl, hb⟩; have HS8 := hideIt ((HS7.out.below hb).wide hb.size); have HB8 := hideIt (HB7.out.trans (hb.mono HB7.out.size)); have HK8 := hideIt (HK7.out.kept hb HK7.out.lt); have R98 := hideIt (R97.out.kept hb R97.out.lt); have R108 := hideIt (R107.out.kept hb R107.out.lt); clear hb HV1 HB7 HS7 HK7 R97 R107)
          | ((with_reducible refine at_load ?_); refine wpList_get rfl 30 (.tmp 5) rfl (w.heap.size + 1) (d2.map bv) 30 (.array 16 5) rfl HK8.out (by kernel_rfl) rfl (isize16 _ D2.out) ?_)
          | ((with_reducible refine at_load ?_); refine wpList_get rfl 30 (.tmp 10) rfl wd.heap.size (r2.map bv) 30 (.array 16 5) rfl R108.out (by kernel_rfl) rfl (isize16 _ R2L.out) ?_)
          | (go_at_call 24; refine (HV2.out _ A7 c7 HB8.out ⟨rfl, Q16.out, HS8.out⟩ hc71).mono ?_; rintro e wh ⟨rfl, hb⟩; have HS9 := hideIt ((HS8.out.below hb).wide hb.size); have HB9 := hideIt (HB8.out.trans (hb.mono HB8.out.size)); have HK9 := hideIt (HK8.out.kept hb HK8.out.lt); have R99 := hideIt (R98.out.kept hb R98.out.lt); have R109 := hideIt (R108.out.kept hb R108.out.lt); clear hb HV2 HB8 HS8 HK8 R98 R108)
          | ((with_reducible refine at_load ?_); refine wpList_get_g (by kernel_rfl) 30 (.tmp 5) rfl (w.heap.size + 1) (d2.map bv) 30 (.array 16 5) rfl HK9.out (by kernel_rfl) rfl (isize16 _ D2.out) ?_)
          | ((with_reducible refine at_load ?_); refine wpList_get_g (by kernel_rfl) 30 (.tmp 10) rfl wd.heap.size (r2.map bv) 30 (.array 16 5) rfl R109.out (by kernel_rfl) rfl (isize16 _ R2L.out) ?_)
          | (go_at_call 25; refine (HV3.out _ A7 c7 HB9.out ⟨rfl, Q16.out, HS9.out⟩ hc71).mono ?_; rintro e wi ⟨rfl, hb⟩; have HB10 := hideIt (HB9.out.trans (hb.mono HB9.out.size)); have HK10 := hideIt (HK9.out.kept hb HK9.out.lt); have R910 := hideIt (R99.out.kept hb R99.out.lt); clear hb HV3 HB9 HK9 R99 R109 HS9)
          | ((with_reducible refine at_load ?_); refine wpList_get_g (by kernel_rfl) 30 (.tmp 5) rfl (w.heap.size + 1) (d2.map bv) 30 (.array 16 5) rfl HK10.out (by kernel_rfl) rfl (isize16 _ D2.out) ?_)
          | ((with_reducible refine at_load ?_); refine wpList_get_g (by kernel_rfl) 30 (.tmp 9) rfl wb.heap.size (r1.map bv) 30 (.array 16 5) rfl R910.out (by kernel_rfl) rfl (isize16 _ R1L.out) ?_))
        go_ret
        exact ⟨rfl, HB10.out⟩
      · rw [decide_eq_false hdd] at heq
        clear hdd hbb
        cases b
        · skip
          go_wp2_with (first
            | (go_at_call 19; refine (HR1.out _ HB2.out).mono ?_; rintro e wb ⟨rfl, hb⟩; have HB3 := hideIt (HB2.out.trans (hb.mono HB2.out.size)); have HW3 := hideIt hb; have HK3 := hideIt (HK2.out.kept hb HK2.out.lt); clear hb HR1 HB2 HK2)
            | ((with_reducible refine at_store ?_); refine wpList_put rfl 30 (.tmp 9) (.tmp 36) rfl wb.heap.size (r1.map bv) _ _ rfl rfl (Blk.new wb 30 (List.replicate 16 (Value.int .u8 0))) (by rw [List.length_map, R1L.out]; kernel_rfl) (by rw [List.length_map, R1L.out]; rfl) (bv_one _) ?_; intro wc ht hb; have R94 := hideIt hb; have HK4 := hideIt (ht.blk (HK3.out.alloc _) (by have := HK3.out.lt; omega)); have HB4 := hideIt (ht.below (HB3.out.alloc HB3.out.size (.cells (List.replicate 16 (Value.int .u8 0)).toArray 30)) HB3.out.size); have HW4 := hideIt (ht.below (HW3.out.alloc HW3.out.size (.cells (List.replicate 16 (Value.int .u8 0)).toArray 30)) HW3.out.size); clear ht hb HB3 HK3 HW3)
            | (go_at_call 19; refine (HR2.out _ A8 c8 HB4.out ((HD2.out.below HW4.out (Nat.le_refl _)).wide HW4.out.size) hc81).mono ?_; rintro e wd ⟨rfl, hb⟩; have HB5 := hideIt (HB4.out.trans (hb.mono HB4.out.size)); have HW5 := hideIt (HW4.out.trans (hb.mono HW4.out.size)); have HK5 := hideIt (HK4.out.kept hb HK4.out.lt); have R95 := hideIt (R94.out.kept hb R94.out.lt); clear hb HR2 HB4 HK4 R94 HW4)
            | ((with_reducible refine at_store ?_); refine wpList_put rfl 30 (.tmp 10) (.tmp 38) rfl wd.heap.size (r2.map bv) _ _ rfl rfl (Blk.new wd 30 (List.replicate 16 (Value.int .u8 0))) (by rw [List.length_map, R2L.out]; kernel_rfl) (by rw [List.length_map, R2L.out]; rfl) (bv_one _) ?_; intro we ht hb; have R106 := hideIt hb; have HK6 := hideIt (ht.blk (HK5.out.alloc _) (by have := HK5.out.lt; omega)); have R96 := hideIt (ht.blk (R95.out.alloc _) (by have := R95.out.lt; omega)); have HB6 := hideIt (ht.below (HB5.out.alloc HB5.out.size (.cells (List.replicate 16 (Value.int .u8 0)).toArray 30)) HB5.out.size); have HW6 := hideIt (ht.below (HW5.out.alloc HW5.out.size (.cells (List.replicate 16 (Value.int .u8 0)).toArray 30)) HW5.out.size); clear ht hb HB5 HK5 R95 HW5)
            | (go_at_call 17; refine (HPP.out _ A8 c8 HB6.out ((HD2.out.below HW6.out (Nat.le_refl _)).wide HW6.out.size) hc81).mono ?_; rintro e wf ⟨v7, rfl, hown, hb⟩; obtain ⟨A7, c7, rfl, hc71, hc72⟩ := own_form hown; have HS7 := hideIt (Sl.of_own hown); have HB7 := hideIt (HB6.out.trans (hb.mono HB6.out.size)); have HK7 := hideIt (HK6.out.kept hb HK6.out.lt); have R97 := hideIt (R96.out.kept hb R96.out.lt); have R107 := hideIt (R106.out.kept hb R106.out.lt); clear hown hb HPP HB6 HK6 R96 R106 HW6 HD2)
            | ((with_reducible refine at_load ?_); refine wpList_get_g (by kernel_rfl) 30 (.tmp 9) rfl wb.heap.size (r1.map bv) 30 (.array 16 5) rfl R97.out (by kernel_rfl) rfl (isize16 _ R1L.out) ?_)
            | ((with_reducible refine at_load ?_); refine wpList_get_g (by kernel_rfl) 30 (.tmp 10) rfl wd.heap.size (r2.map bv) 30 (.array 16 5) rfl R107.out (by kernel_rfl) rfl (isize16 _ R2L.out) ?_)
            | (go_at_call 24; refine (HV1.out _ A7 c7 HB7.out ⟨rfl, Q16.out, HS7.out⟩ hc71).mono ?_; rintro e wg ⟨rfl, hb⟩; have HS8 := hideIt ((HS7.out.below hb).wide hb.size); have HB8 := hideIt (HB7.out.trans (hb.mono HB7.out.size)); have HK8 := hideIt (HK7.out.kept hb HK7.out.lt); have R98 := hideIt (R97.out.kept hb R97.out.lt); have R108 := hideIt (R107.out.kept hb R107.out.lt); clear hb HV1 HB7 HS7 HK7 R97 R107)
            | ((with_reducible refine at_load ?_); refine wpList_get rfl 30 (.tmp 5) rfl (w.heap.size + 1) (d2.map bv) 30 (.array 16 5) rfl HK8.out (by kernel_rfl) rfl (isize16 _ D2.out) ?_)
            | ((with_reducible refine at_load ?_); refine wpList_get rfl 30 (.tmp 10) rfl wd.heap.size (r2.map bv) 30 (.array 16 5) rfl R108.out (by kernel_rfl) rfl (isize16 _ R2L.out) ?_)
            | (go_at_call 24; refine (HV2.out _ A7 c7 HB8.out ⟨rfl, Q16.out, HS8.out⟩ hc71).mono ?_; rintro e wh ⟨rfl, hb⟩; have HS9 := hideIt ((HS8.out.below hb).wide hb.size); have HB9 := hideIt (HB8.out.trans (hb.mono HB8.out.size)); have HK9 := hideIt (HK8.out.kept hb HK8.out.lt); have R99 := hideIt (R98.out.kept hb R98.out.lt); have R109 := hideIt (R108.out.kept hb R108.out.lt); clear hb HV2 HB8 HS8 HK8 R98 R108)
            | ((with_reducible refine at_load ?_); refine wpList_get_g (by kernel_rfl) 30 (.tmp 5) rfl (w.heap.size + 1) (d2.map bv) 30 (.array 16 5) rfl HK9.out (by kernel_rfl) rfl (isize16 _ D2.out) ?_)
            | ((with_reducible refine at_load ?_); refine wpList_get_g (by kernel_rfl) 30 (.tmp 10) rfl wd.heap.size (r2.map bv) 30 (.array 16 5) rfl R109.out (by kernel_rfl) rfl (isize16 _ R2L.out) ?_)
            | (go_at_call 25; refine (HV3.out _ A7 c7 HB9.out ⟨rfl, Q16.out, HS9.out⟩ hc71).mono ?_; rintro e wi ⟨rfl, hb⟩; have HB10 := hideIt (HB9.out.trans (hb.mono HB9.out.size)); have HK10 := hideIt (HK9.out.kept hb HK9.out.lt); have R910 := hideIt (R99.out.kept hb R99.out.lt); clear hb HV3 HB9 HK9 R99 R109 HS9)
            | ((with_reducible refine at_load ?_); refine wpList_get_g (by kernel_rfl) 30 (.tmp 5) rfl (w.heap.size + 1) (d2.map bv) 30 (.array 16 5) rfl HK10.out (by kernel_rfl) rfl (isize16 _ D2.out) ?_)
            | ((with_reducible refine at_load ?_); refine wpList_get_g (by kernel_rfl) 30 (.tmp 9) rfl wb.heap.size (r1.map bv) 30 (.array 16 5) rfl R910.out (by kernel_rfl) rfl (isize16 _ R1L.out) ?_))
          go_ret
          exact ⟨rfl, HB10.out⟩
        · skip
          go_wp2_with (first
            | (go_at_call 19; refine (HR1.out _ HB2.out).mono ?_; rintro e wb ⟨rfl, hb⟩; have HB3 := hideIt (HB2.out.trans (hb.mono HB2.out.size)); have HW3 := hideIt hb; have HK3 := hideIt (HK2.out.kept hb HK2.out.lt); clear hb HR1 HB2 HK2)
            | ((with_reducible refine at_store ?_); refine wpList_put rfl 30 (.tmp 9) (.tmp 36) rfl wb.heap.size (r1.map bv) _ _ rfl rfl (Blk.new wb 30 (List.replicate 16 (Value.int .u8 0))) (by rw [List.length_map, R1L.out]; kernel_rfl) (by rw [List.length_map, R1L.out]; rfl) (bv_one _) ?_; intro wc ht hb; have R94 := hideIt hb; have HK4 := hideIt (ht.blk (HK3.out.alloc _) (by have := HK3.out.lt; omega)); have HB4 := hideIt (ht.below (HB3.out.alloc HB3.out.size (.cells (List.replicate 16 (Value.int .u8 0)).toArray 30)) HB3.out.size); have HW4 := hideIt (ht.below (HW3.out.alloc HW3.out.size (.cells (List.replicate 16 (Value.int .u8 0)).toArray 30)) HW3.out.size); clear ht hb HB3 HK3 HW3)
            | (go_at_call 19; refine (HR2.out _ A8 c8 HB4.out ((HD2.out.below HW4.out (Nat.le_refl _)).wide HW4.out.size) hc81).mono ?_; rintro e wd ⟨rfl, hb⟩; have HB5 := hideIt (HB4.out.trans (hb.mono HB4.out.size)); have HW5 := hideIt (HW4.out.trans (hb.mono HW4.out.size)); have HK5 := hideIt (HK4.out.kept hb HK4.out.lt); have R95 := hideIt (R94.out.kept hb R94.out.lt); clear hb HR2 HB4 HK4 R94 HW4)
            | ((with_reducible refine at_store ?_); refine wpList_put rfl 30 (.tmp 10) (.tmp 38) rfl wd.heap.size (r2.map bv) _ _ rfl rfl (Blk.new wd 30 (List.replicate 16 (Value.int .u8 0))) (by rw [List.length_map, R2L.out]; kernel_rfl) (by rw [List.length_map, R2L.out]; rfl) (bv_one _) ?_; intro we ht hb; have R106 := hideIt hb; have HK6 := hideIt (ht.blk (HK5.out.alloc _) (by have := HK5.out.lt; omega)); have R96 := hideIt (ht.blk (R95.out.alloc _) (by have := R95.out.lt; omega)); have HB6 := hideIt (ht.below (HB5.out.alloc HB5.out.size (.cells (List.replicate 16 (Value.int .u8 0)).toArray 30)) HB5.out.size); have HW6 := hideIt (ht.below (HW5.out.alloc HW5.out.size (.cells (List.replicate 16 (Value.int .u8 0)).toArray 30)) HW5.out.size); clear ht hb HB5 HK5 R95 HW5)
            | (go_at_call 17; refine (HPP.out _ A8 c8 HB6.out ((HD2.out.below HW6.out (Nat.le_refl _)).wide HW6.out.size) hc81).mono ?_; rintro e wf ⟨v7, rfl, hown, hb⟩; obtain ⟨A7, c7, rfl, hc71, hc72⟩ := own_form hown; have HS7 := hideIt (Sl.of_own hown); have HB7 := hideIt (HB6.out.trans (hb.mono HB6.out.size)); have HK7 := hideIt (HK6.out.kept hb HK6.out.lt); have R97 := hideIt (R96.out.kept hb R96.out.lt); have R107 := hideIt (R106.out.kept hb R106.out.lt); clear hown hb HPP HB6 HK6 R96 R106 HW6 HD2)
            | ((with_reducible refine at_load ?_); refine wpList_get_g (by kernel_rfl) 30 (.tmp 9) rfl wb.heap.size (r1.map bv) 30 (.array 16 5) rfl R97.out (by kernel_rfl) rfl (isize16 _ R1L.out) ?_)
            | ((with_reducible refine at_load ?_); refine wpList_get_g (by kernel_rfl) 30 (.tmp 10) rfl wd.heap.size (r2.map bv) 30 (.array 16 5) rfl R107.out (by kernel_rfl) rfl (isize16 _ R2L.out) ?_)
            | (go_at_call 24; refine (HV1.out _ A7 c7 HB7.out ⟨rfl, Q16.out, HS7.out⟩ hc71).mono ?_; rintro e wg ⟨rfl, hb⟩; have HS8 := hideIt ((HS7.out.below hb).wide hb.size); have HB8 := hideIt (HB7.out.trans (hb.mono HB7.out.size)); have HK8 := hideIt (HK7.out.kept hb HK7.out.lt); have R98 := hideIt (R97.out.kept hb R97.out.lt); have R108 := hideIt (R107.out.kept hb R107.out.lt); clear hb HV1 HB7 HS7 HK7 R97 R107)
            | ((with_reducible refine at_load ?_); refine wpList_get rfl 30 (.tmp 5) rfl (w.heap.size + 1) (d2.map bv) 30 (.array 16 5) rfl HK8.out (by kernel_rfl) rfl (isize16 _ D2.out) ?_)
            | ((with_reducible refine at_load ?_); refine wpList_get rfl 30 (.tmp 10) rfl wd.heap.size (r2.map bv) 30 (.array 16 5) rfl R108.out (by kernel_rfl) rfl (isize16 _ R2L.out) ?_)
            | (go_at_call 24; refine (HV2.out _ A7 c7 HB8.out ⟨rfl, Q16.out, HS8.out⟩ hc71).mono ?_; rintro e wh ⟨rfl, hb⟩; have HS9 := hideIt ((HS8.out.below hb).wide hb.size); have HB9 := hideIt (HB8.out.trans (hb.mono HB8.out.size)); have HK9 := hideIt (HK8.out.kept hb HK8.out.lt); have R99 := hideIt (R98.out.kept hb R98.out.lt); have R109 := hideIt (R108.out.kept hb R108.out.lt); clear hb HV2 HB8 HS8 HK8 R98 R108)
            | ((with_reducible refine at_load ?_); refine wpList_get_g (by kernel_rfl) 30 (.tmp 5) rfl (w.heap.size + 1) (d2.map bv) 30 (.array 16 5) rfl HK9.out (by kernel_rfl) rfl (isize16 _ D2.out) ?_)
            | ((with_reducible refine at_load ?_); refine wpList_get_g (by kernel_rfl) 30 (.tmp 10) rfl wd.heap.size (r2.map bv) 30 (.array 16 5) rfl R109.out (by kernel_rfl) rfl (isize16 _ R2L.out) ?_)
            | (go_at_call 25; refine (HV3.out _ A7 c7 HB9.out ⟨rfl, Q16.out, HS9.out⟩ hc71).mono ?_; rintro e wi ⟨rfl, hb⟩; have HB10 := hideIt (HB9.out.trans (hb.mono HB9.out.size)); have HK10 := hideIt (HK9.out.kept hb HK9.out.lt); have R910 := hideIt (R99.out.kept hb R99.out.lt); clear hb HV3 HB9 HK9 R99 R109 HS9)
            | ((with_reducible refine at_load ?_); refine wpList_get_g (by kernel_rfl) 30 (.tmp 5) rfl (w.heap.size + 1) (d2.map bv) 30 (.array 16 5) rfl HK10.out (by kernel_rfl) rfl (isize16 _ D2.out) ?_)
            | ((with_reducible refine at_load ?_); refine wpList_get_g (by kernel_rfl) 30 (.tmp 9) rfl wb.heap.size (r1.map bv) 30 (.array 16 5) rfl R910.out (by kernel_rfl) rfl (isize16 _ R1L.out) ?_))
          go_ret
          exact ⟨rfl, HB10.out⟩

end Go.Proofs.YtefalanfkihcdaaDoor.digestRootAppends
