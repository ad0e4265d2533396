/-
  Roots, walked: the reference's Root.
-/
import Derived.Test.YtkjnimcapjjfdaaDoorRoot
import Derived.Test.YtkjnimcapjjfdaaDoorRNode
namespace Go.Proofs.YtkjnimcapjjfdaaDoor
open Go.RowKit
set_option linter.unusedVariables false

set_option maxHeartbeats 1000000 in
set_option maxRecDepth 100000 in
theorem refRoot_any (N : Nat) : ∀ (l : List (List UInt8)) (A : Option Addr) (B n c : Nat) (w : World), n ≤ N → n ≤ 1000000000 → Ds w B A n l → n ≤ c → B ≤ w.heap.size → Tab w 0 →
    Calls Tryd.prog 20 #[.slice A n c] w fun e w' => e = .returned (dv (rootD l)) ∧ Below w.heap.size w w' := by
  induction N with
  | zero =>
    intro l A B n c w hN _ hD hnc hB hT
    obtain rfl : n = 0 := by omega
    obtain rfl : l = [] := List.length_eq_zero_iff.1 hD.1
    have HT := hideIt hT
    obtain ⟨d, hd⟩ : ∃ d, d = rootD [] := ⟨_, rfl⟩
    have HDL : Hid (d.length = 16) := by rw [hd]; exact rootD_len _
    have HO : Hid (∀ W, Tab W 0 → Calls Tryd.prog 14 #[.int .i64 1, .slice none 0 0] W fun e w' => e = .returned (dv d) ∧ Below W.heap.size W w') := by
      rw [hd, rootD_nil]
      exact fun W hW => refOf_any none 0 0 1 [] W (Sl.nil _ _ _ _) (by simp) (by simp) (by omega) hW
    rw [← hd]
    clear hd hT hD
    go_enter Tryd.func20, Tryd.ntmps20
    go_wp2_with (first
      | (go_at_call 14; refine (HO.out _ (HT.out.keep (below_new w _))).mono ?_; rintro e w2 ⟨rfl, hb2⟩; have HB2 := hideIt hb2; clear hb2)
      | ((with_reducible refine at_store ?_); refine wpList_put rfl 30 (.tmp 2) (.tmp 7) rfl w.heap.size (d.map bv) _ _ rfl rfl ((Blk.new w 30 (List.replicate 16 (.int .u8 0))).kept HB2.out (by simp)) (by rw [List.length_map, HDL.out]; kernel_rfl) (by rw [List.length_map, HDL.out]; rfl) (bv_one _) ?_; intro w3 ht3 hb3; have HT3 := hideIt ht3; have HB3 := hideIt hb3; clear ht3 hb3))
    exact bodyPost_ret (ret_blk rfl HB3.out (.array 16 5) rfl (by kernel_rfl) rfl (by rw [List.length_map, HDL.out]; kernel_rfl)) rfl ⟨rfl, HT3.out.below ((below_new w _).trans (HB2.out.mono (by simp))) (Nat.le_refl _)⟩
  | succ N ih =>
    intro l A B n c w hN hn9 hD hnc hB hT
    by_cases h0 : n = 0
    · exact ih l A B n c w (by omega) hn9 hD hnc hB hT
    by_cases h1 : n = 1
    · subst h1
      obtain ⟨d0, rfl⟩ : ∃ d0, l = [d0] := by
        have := hD.1
        match l, this with
        | [d0], _ => exact ⟨d0, rfl⟩
      have hd0 : d0.length = 16 := hD.2.1 d0 (by simp)
      have HT := hideIt hT
      obtain ⟨b, off, rfl, hb, hc⟩ := Sl.dig (ds := [d0]) hD.2.2 hD.2.1 (k := 0) (by simp)
      have hc : Has16 w ⟨b, off, none⟩ d0 := by simpa using hc
      have HC := hideIt hc
      have HD0 := hideIt hd0
      have HLF := hideIt (fun (W : World) (h : Tab W 0) => refLeaf_any d0 hd0 W h)
      obtain ⟨d, hd⟩ : ∃ d, d = leafD d0 := ⟨_, rfl⟩
      have HDL : Hid (d.length = 16) := by rw [hd]; exact cutD_len _
      rw [← hd] at HLF
      rw [rootD_one, ← hd]
      clear hT hD hc hd0 hd
      go_enter Tryd.func20, Tryd.ntmps20
      go_wp2_with (first
        | ((with_reducible refine at_load ?_); refine wpList_load_mid rfl 30 (.tmp 12) rfl b off rfl (d0.map bv) (.array 16 5) (range16 (HC.out.below (by omega) (below_new w _))) (by kernel_rfl) rfl (isize16 _ HD0.out) ?_)
        | (go_at_call 46; refine (HLF.out _ (HT.out.keep (below_new w _))).mono ?_; rintro e w2 ⟨rfl, hb2⟩; have HB2 := hideIt hb2; clear hb2)
        | ((with_reducible refine at_store ?_); refine wpList_put rfl 30 (.tmp 2) (.tmp 14) rfl w.heap.size (d.map bv) _ _ rfl rfl ((Blk.new w 30 (List.replicate 16 (.int .u8 0))).kept HB2.out (by simp)) (by rw [List.length_map, HDL.out]; kernel_rfl) (by rw [List.length_map, HDL.out]; rfl) (bv_one _) ?_; intro w3 ht3 hb3; have HT3 := hideIt ht3; have HB3 := hideIt hb3; clear ht3 hb3))
      exact bodyPost_ret (ret_blk rfl HB3.out (.array 16 5) rfl (by kernel_rfl) rfl (by rw [List.length_map, HDL.out]; kernel_rfl)) rfl ⟨rfl, HT3.out.below ((below_new w _).trans (HB2.out.mono (by simp))) (Nat.le_refl _)⟩
    · have h2 : 2 ≤ n := by omega
      have hsp := splitK_spec n h2
      have HSP := hideIt (fun W => refSplit_any n h2 (by omega) W)
      have hroot := rootD_two l (by have := hD.1; omega)
      rw [hD.1] at hroot
      obtain ⟨k, hk⟩ : ∃ k, k = splitK n := ⟨_, rfl⟩
      rw [← hk] at hsp hroot HSP
      obtain ⟨A', hlo, hDs⟩ := run_lo A (n := n) (cap := c) (k := k) (by omega) hnc
      have hhi := fun W => run_hi A (n := n) (cap := c) (k := k) (by omega) W
      obtain ⟨x, hx⟩ : ∃ x, x = rootD (l.take k) := ⟨_, rfl⟩
      obtain ⟨y, hy⟩ : ∃ y, y = rootD (l.drop k) := ⟨_, rfl⟩
      have hxl : x.length = 16 := by rw [hx]; exact rootD_len _
      have hyl : y.length = 16 := by rw [hy]; exact rootD_len _
      have ih1 := fun (W : World) (h : Ds W B A k (l.take k)) (hB : B ≤ W.heap.size) (hT : Tab W 0) => ih (l.take k) A B k c W (by omega) (by omega) h (by omega) hB hT
      have ih2 := fun (W : World) (h : Ds W B A' (n - k) (l.drop k)) (hB : B ≤ W.heap.size) (hT : Tab W 0) => ih (l.drop k) A' B (n - k) (c - k) W (by omega) (by omega) h (by omega) hB hT
      rw [← hx] at ih1
      rw [← hy] at ih2
      have HNM := hideIt (fun (W : World) (h : Tab W 0) => refNode_any x y hxl hyl W h)
      obtain ⟨d, hd⟩ : ∃ d, d = nodeD x y := ⟨_, rfl⟩
      have HDL : Hid (d.length = 16) := by rw [hd]; exact cutD_len _
      rw [← hd] at HNM
      rw [hroot, ← hx, ← hy, ← hd]
      have HD1 := hideIt (hD.hi k (by omega))
      have HD2 := hideIt (hDs w B l hD)
      have HT := hideIt hT
      have HI1 := hideIt ih1
      have HI2 := hideIt ih2
      obtain ⟨s1, s2, s3⟩ := hsp
      clear ih hD hDs hT ih1 ih2 hx hy hd hroot hk hxl hyl
      go_enter Tryd.func20, Tryd.ntmps20
      go_upto_region 6 with (go_at_call 40; refine (HSP.out _).mono ?_; rintro e w' ⟨rfl, rfl⟩)
      have HR1 : Hid (Blk (w.alloc (.cells (List.replicate 16 (.int .u8 0)).toArray 30)) w.heap.size 30 (List.replicate 16 (.int .u8 0))) := Blk.new w _ _
      have HB1 : Hid (Below w.heap.size w (w.alloc (.cells (List.replicate 16 (.int .u8 0)).toArray 30))) := below_new w _
      have hsz1 : (w.alloc (.cells (List.replicate 16 (.int .u8 0)).toArray 30)).heap.size = w.heap.size + 1 := by simp
      generalize hw1 : w.alloc (.cells (List.replicate 16 (.int .u8 0)).toArray 30) = w1 at HR1 HB1 hsz1
      rw [show w.alloc (.cells #[Value.int .u8 0, Value.int .u8 0, Value.int .u8 0, Value.int .u8 0, Value.int .u8 0, Value.int .u8 0, Value.int .u8 0, Value.int .u8 0, Value.int .u8 0, Value.int .u8 0, Value.int .u8 0, Value.int .u8 0, Value.int .u8 0, Value.int .u8 0, Value.int .u8 0, Value.int .u8 0] 30) = w1 from hw1]
      obtain ⟨B1, hB1e⟩ : ∃ b, b = w1.heap.size := ⟨_, rfl⟩
      have HB1e := hideIt hB1e
      clear hB1e
      have HL1 : Hid (∀ W, Below B1 w1 W → Calls Tryd.prog 20 #[.slice A k c] W fun e w' => e = .returned (dv x) ∧ Below B1 w1 w') := fun W hW =>
        (HI1.out W ((HD1.out.below HB1.out hB).below hW (by have := HB1e.out; omega)) (Nat.le_trans (show B ≤ w1.heap.size by omega) hW.size) ((HT.out.keep HB1.out).below (show 0 < B1 by have := HB1e.out; have := HT.out.1; omega) hW)).mono fun e w' ⟨h1, h2⟩ => ⟨h1, hW.trans (h2.mono (by have := hW.size; have := HB1e.out; omega))⟩
      have HL2 : Hid (∀ W, Below B1 w1 W → Calls Tryd.prog 20 #[.slice A' (n - k) (c - k)] W fun e w' => e = .returned (dv y) ∧ Below B1 w1 w') := fun W hW =>
        (HI2.out W ((HD2.out.below HB1.out hB).below hW (by have := HB1e.out; omega)) (Nat.le_trans (show B ≤ w1.heap.size by omega) hW.size) ((HT.out.keep HB1.out).below (show 0 < B1 by have := HB1e.out; have := HT.out.1; omega) hW)).mono fun e w' ⟨h1, h2⟩ => ⟨h1, hW.trans (h2.mono (by have := hW.size; have := HB1e.out; omega))⟩
      have hB1a : w.heap.size < B1 := by have := HB1e.out; omega
      clear HI1 HI2 HD1 HD2 HSP hw1 hsz1
      refine calm_tail (C := fun W => Below B1 w1 W) 8 (by kernel_rfl) (by kernel_rfl) ((Below.refl _ _).drew) ?_
      simp only [List.take_succ_cons, List.take_zero, List.drop_succ_cons, List.drop_zero]
      repeat (go_big_quiet_step (first | (intro hb; with_reducible exact HL1.out _ hb) | (intro hb; with_reducible exact HL2.out _ hb) | (intro _; rfl) | (intro _; exact ⟨rfl, rfl⟩)))
      refine wpQuiet_nil ?_
      intro W0 hW0
      have HW0 := hideIt hW0
      clear hW0
      go_wp2_with (first
        | (go_at_call 47; refine (HNM.out _ ((HT.out.keep HB1.out).below (show 0 < B1 by have := HT.out.1; omega) HW0.out)).mono ?_; rintro e w3 ⟨rfl, hb3⟩; have HB3 := hideIt hb3; clear hb3)
        | ((with_reducible refine at_store ?_); refine wpList_put rfl 30 (.tmp 2) (.tmp 26) rfl w.heap.size (d.map bv) _ _ rfl rfl ((HR1.out.kept HW0.out (by omega)).kept HB3.out (by have := HW0.out.size; have := HB1e.out; omega)) (by rw [List.length_map, HDL.out]; kernel_rfl) (by rw [List.length_map, HDL.out]; rfl) (bv_one _) ?_; intro w5 ht5 hb5; have HT5 := hideIt ht5; have HB5 := hideIt hb5; clear ht5 hb5))
      have z1 := HW0.out.size
      have z3 := HB1e.out
      exact bodyPost_ret (ret_blk rfl HB5.out (.array 16 5) rfl (by kernel_rfl) rfl (by rw [List.length_map, HDL.out]; kernel_rfl)) rfl ⟨rfl, HT5.out.below ((HB1.out.trans (HW0.out.mono (by omega))).trans (HB3.out.mono (by omega))) (Nat.le_refl _)⟩

end Go.Proofs.YtkjnimcapjjfdaaDoor
