/-
  What a prefix proof shows, walked: the reference's pairOf, VerifyPrefix.
-/
import Derived.Test.YtefalanfkihcdaaDoorPair2
import Derived.Test.YtefalanfkihcdaaDoorRRoot
namespace Go.Proofs.YtefalanfkihcdaaDoor
open Go.RowKit
set_option linter.unusedVariables false

theorem len16 (l : List UInt8) (h : l.length = 16) : ∃ a0 a1 a2 a3 a4 a5 a6 a7 a8 a9 a10 a11 a12 a13 a14 a15, l = [a0, a1, a2, a3, a4, a5, a6, a7, a8, a9, a10, a11, a12, a13, a14, a15] := by
  match l, h with
  | [a0, a1, a2, a3, a4, a5, a6, a7, a8, a9, a10, a11, a12, a13, a14, a15], _ => exact ⟨_, _, _, _, _, _, _, _, _, _, _, _, _, _, _, _, rfl⟩
/-- A pair, as the reference keeps it. -/
def pairC (x y : List UInt8) (ok : Bool) : List Value := x.map bv ++ (y.map bv ++ [.bool ok])
theorem pairC_len (x y : List UInt8) (hx : x.length = 16) (hy : y.length = 16) (ok : Bool) : (pairC x y ok).length = 33 := by simp [pairC, hx, hy]
theorem built_pair (x y : List UInt8) (hx : x.length = 16) (hy : y.length = 16) (ok : Bool) : Tryd.prog.built 84 [(0, dv x), (1, dv y), (2, .bool ok)] = some (pairC x y ok).toArray := by
  obtain ⟨a0, a1, a2, a3, a4, a5, a6, a7, a8, a9, a10, a11, a12, a13, a14, a15, rfl⟩ := len16 x hx
  obtain ⟨b0, b1, b2, b3, b4, b5, b6, b7, b8, b9, b10, b11, b12, b13, b14, b15, rfl⟩ := len16 y hy
  kernel_rfl
theorem built_none : Tryd.prog.built 84 [] = some (pairC zeroD zeroD false).toArray := by kernel_rfl
theorem pair_zero : (pairC zeroD zeroD false).toArray = #[Value.int .u8 0, Value.int .u8 0, Value.int .u8 0, Value.int .u8 0, Value.int .u8 0, Value.int .u8 0, Value.int .u8 0, Value.int .u8 0, Value.int .u8 0, Value.int .u8 0, Value.int .u8 0, Value.int .u8 0, Value.int .u8 0, Value.int .u8 0, Value.int .u8 0, Value.int .u8 0, Value.int .u8 0, Value.int .u8 0, Value.int .u8 0, Value.int .u8 0, Value.int .u8 0, Value.int .u8 0, Value.int .u8 0, Value.int .u8 0, Value.int .u8 0, Value.int .u8 0, Value.int .u8 0, Value.int .u8 0, Value.int .u8 0, Value.int .u8 0, Value.int .u8 0, Value.int .u8 0, Value.bool false] := by kernel_rfl
theorem isizeP (x y : List UInt8) (hx : x.length = 16) (hy : y.length = 16) (ok : Bool) : (Tryd.prog.info? 84).map (·.size) = some (pairC x y ok).length := by rw [pairC_len x y hx hy]; kernel_rfl
theorem pairC_one (x y : List UInt8) (ok : Bool) : ∀ u ∈ pairC x y ok, u.oneCell' = true := by
  intro u hu
  rcases List.mem_append.1 hu with h | h
  · exact bv_one _ u h
  · rcases List.mem_append.1 h with h | h
    · exact bv_one _ u h
    · rw [List.mem_singleton] at h; subst h; rfl
section
variable {W : World} {g : Nat} {t : TypeId} {x y : List UInt8} {ok : Bool}
theorem pair_rx (h : Blk W g t (pairC x y ok)) : W.rangeAt g 0 (x.map bv) := fun j v hv => by
  rw [h.cell, Nat.zero_add]; unfold pairC
  rw [List.getElem?_append_left (List.getElem?_eq_some_iff.1 hv).1]; exact hv
theorem pair_ry (hx : x.length = 16) (h : Blk W g t (pairC x y ok)) : W.rangeAt g 16 (y.map bv) := fun j v hv => by
  rw [h.cell]; unfold pairC
  rw [List.getElem?_append_right (by rw [List.length_map]; omega), List.length_map, hx, Nat.add_sub_cancel_left, List.getElem?_append_left (List.getElem?_eq_some_iff.1 hv).1]; exact hv
theorem pair_rk (hx : x.length = 16) (hy : y.length = 16) (h : Blk W g t (pairC x y ok)) : W.cell? ⟨g, 32, none⟩ = some (.bool ok) := by
  rw [h.cell]; unfold pairC
  rw [List.getElem?_append_right (by rw [List.length_map]; omega), List.length_map, hx, List.getElem?_append_right (by rw [List.length_map]; omega), List.length_map, hy]
  rfl
end
structure RPStart (w w0 : World) (old : List UInt8) : Prop where
  bel : Below w.heap.size w w0
  old : Blk w0 w.heap.size 30 (old.map bv)
  res : Blk w0 (w.heap.size + 1) 84 (pairC zeroD zeroD false)
theorem rp_start (w : World) (old : List UInt8) : RPStart w ((w.alloc (.cells (old.map bv).toArray 30)).alloc (.cells (pairC zeroD zeroD false).toArray 84)) old := by
  have hz1 : (w.alloc (.cells (old.map bv).toArray 30)).heap.size = w.heap.size + 1 := by simp
  exact ⟨(below_new w _).alloc (by rw [hz1]; omega) _, (Blk.new w 30 (old.map bv)).alloc _, hz1 ▸ Blk.new (w.alloc (.cells (old.map bv).toArray 30)) 84 (pairC zeroD zeroD false)⟩

set_option maxHeartbeats 800000 in
set_option maxRecDepth 100000 in
theorem rpair_whole (old : List UInt8) (ho : old.length = 16) (A : Option Addr) (n p c : Nat) (w : World) (hn : n ≤ 9223372036854775807) (hp : p ≤ 1000000000) :
    Calls Tryd.prog 50 #[dv old, .int .i64 (n : Int), .int .i64 (n : Int), .bool true, .slice A p c] w fun e w' => e = .returned (.agg (pairC old old (decide (p = 0))).toArray) ∧ Below w.heap.size w w' := by
  obtain ⟨w0, hw0⟩ : ∃ W, W = (w.alloc (.cells (old.map bv).toArray 30)).alloc (.cells (pairC zeroD zeroD false).toArray 84) := ⟨_, rfl⟩
  have HP0 : Hid (RPStart w w0 old) := by rw [hw0]; exact rp_start w old
  rw [pair_zero] at hw0
  have HW0 := hideIt hw0
  have HO := hideIt ho
  clear hw0
  obtain ⟨q, hqe⟩ : ∃ q, q = decide (p = 0) := ⟨_, rfl⟩
  have hqq : ((p : Int) == 0) = q := by rw [hqe, Bool.eq_iff_iff]; simp
  rw [← hqe]
  clear hqe ho
  go_enter Tryd.func50, Tryd.ntmps50
  go_wp2_with (first
    | ((with_reducible refine at_load ?_); refine wpList_get rfl 30 (.tmp 5) rfl w.heap.size (old.map bv) 30 (.array 16 5) rfl (by have := HP0.out.old; rw [HW0.out] at this; exact this) (by kernel_rfl) rfl (isize16 _ HO.out) ?_)
    | ((with_reducible refine at_build ?_); refine wpList_build_is rfl 84 #[(0, .tmp 22), (1, .tmp 23), (2, .tmp 26)] rfl (pairC old old q).toArray (by rw [Array.toList_map]; exact built_pair old old HO.out HO.out q) ?_)
    | ((with_reducible refine at_store ?_); refine wpList_put rfl 84 (.tmp 10) (.tmp 27) rfl (w.heap.size + 1) (pairC old old q) _ _ rfl rfl (by have := HP0.out.res; rw [HW0.out] at this; exact this) (isizeP _ _ HO.out HO.out _) (by rw [pairC_len _ _ (rfl : zeroD.length = 16) (rfl : zeroD.length = 16), pairC_len _ _ HO.out HO.out]) (pairC_one _ _ _) ?_; intro w2 ht hb; have HB2 := hideIt hb; have HT2 := hideIt ht; clear ht hb))
  exact bodyPost_ret (ret_blk rfl HB2.out _ rfl Tryd.underlying84 rfl (isizeP _ _ HO.out HO.out _)) rfl ⟨rfl, HT2.out.below (by have := HP0.out.bel; rw [HW0.out] at this; exact this) (by omega)⟩

set_option maxHeartbeats 800000 in
set_option maxRecDepth 100000 in
theorem rpair_short (old : List UInt8) (ho : old.length = 16) (A : Option Addr) (m n c : Nat) (whole : Bool) (w : World) (hn : n ≤ 9223372036854775807) (hm : m ≤ n) (hb : ¬ (m = n ∧ whole = true)) :
    Calls Tryd.prog 50 #[dv old, .int .i64 (m : Int), .int .i64 (n : Int), .bool whole, .slice A 0 c] w fun e w' => e = .returned (.agg (pairC zeroD zeroD false).toArray) ∧ Below w.heap.size w w' := by
  obtain ⟨w0, hw0⟩ : ∃ W, W = (w.alloc (.cells (old.map bv).toArray 30)).alloc (.cells (pairC zeroD zeroD false).toArray 84) := ⟨_, rfl⟩
  have HP0 : Hid (RPStart w w0 old) := by rw [hw0]; exact rp_start w old
  rw [pair_zero] at hw0
  have HW0 := hideIt hw0
  have HO := hideIt ho
  clear hw0
  clear ho
  by_cases hmn : m = n
  · subst hmn
    obtain rfl : whole = false := by cases whole <;> simp_all
    clear hb
    go_enter Tryd.func50, Tryd.ntmps50
    go_wp2_with (first
      | ((with_reducible refine at_build ?_); refine wpList_build_is rfl 84 #[] rfl (pairC zeroD zeroD false).toArray (by rw [Array.toList_map]; exact built_none) ?_)
      | ((with_reducible refine at_store ?_); refine wpList_put rfl 84 (.tmp 10) (.tmp 31) rfl (w.heap.size + 1) (pairC zeroD zeroD false) _ _ rfl rfl (by have := HP0.out.res; rw [HW0.out] at this; exact this) (isizeP _ _ (rfl : zeroD.length = 16) (rfl : zeroD.length = 16) _) rfl (pairC_one _ _ _) ?_; intro w2 ht hb; have HB2 := hideIt hb; have HT2 := hideIt ht; clear ht hb))
    exact bodyPost_ret (ret_blk rfl HB2.out _ rfl Tryd.underlying84 rfl (isizeP _ _ (rfl : zeroD.length = 16) (rfl : zeroD.length = 16) _)) rfl ⟨rfl, HT2.out.below (by have := HP0.out.bel; rw [HW0.out] at this; exact this) (by omega)⟩
  · have hne : ((m : Int) == (n : Int)) = false := by rw [beq_eq_false_iff_ne]; omega
    clear hb hmn
    go_enter Tryd.func50, Tryd.ntmps50
    go_wp2_with (first
      | ((with_reducible refine at_build ?_); refine wpList_build_is rfl 84 #[] rfl (pairC zeroD zeroD false).toArray (by rw [Array.toList_map]; exact built_none) ?_)
      | ((with_reducible refine at_store ?_); refine wpList_put rfl 84 (.tmp 10) (.tmp 31) rfl (w.heap.size + 1) (pairC zeroD zeroD false) _ _ rfl rfl (by have := HP0.out.res; rw [HW0.out] at this; exact this) (isizeP _ _ (rfl : zeroD.length = 16) (rfl : zeroD.length = 16) _) rfl (pairC_one _ _ _) ?_; intro w2 ht hb; have HB2 := hideIt hb; have HT2 := hideIt ht; clear ht hb))
    exact bodyPost_ret (ret_blk rfl HB2.out _ rfl Tryd.underlying84 rfl (isizeP _ _ (rfl : zeroD.length = 16) (rfl : zeroD.length = 16) _)) rfl ⟨rfl, HT2.out.below (by have := HP0.out.bel; rw [HW0.out] at this; exact this) (by omega)⟩

set_option maxHeartbeats 800000 in
set_option maxRecDepth 100000 in
theorem rpair_one (old : List UInt8) (ho : old.length = 16) (A : Option Addr) (B n p c : Nat) (ds : List (List UInt8)) (w : World) (hn : n ≤ 9223372036854775807) (hp : p + 1 ≤ 1000000000) (hD : Ds w B A ds.length ds) (hpd : p + 1 ≤ ds.length) (hpc : p + 1 ≤ c) (hB : B ≤ w.heap.size) :
    Calls Tryd.prog 50 #[dv old, .int .i64 (n : Int), .int .i64 (n : Int), .bool false, .slice A (p + 1) c] w fun e w' => e = .returned (.agg (pairC (ds.getD p []) (ds.getD p []) (decide (p = 0))).toArray) ∧ Below w.heap.size w w' := by
  obtain ⟨w0, hw0⟩ : ∃ W, W = (w.alloc (.cells (old.map bv).toArray 30)).alloc (.cells (pairC zeroD zeroD false).toArray 84) := ⟨_, rfl⟩
  have HP0 : Hid (RPStart w w0 old) := by rw [hw0]; exact rp_start w old
  rw [pair_zero] at hw0
  have HW0 := hideIt hw0
  have HO := hideIt ho
  clear hw0
  obtain ⟨b, off, hAe, hbB, hc, hdl⟩ := ds_load (hD.below HP0.out.bel hB) (k := p) (by omega)
  have hhi := fun W => run_hi A (n := p + 1) (cap := c) (k := p) (by omega) W
  rw [hAe] at hhi ⊢
  clear hAe
  obtain ⟨d, hd⟩ : ∃ d, d = ds.getD p [] := ⟨_, rfl⟩
  rw [← hd] at hc hdl ⊢
  have hpp : (p : Int) < (p : Int) + 1 := by omega
  obtain ⟨q, hqe⟩ : ∃ q, q = decide (p = 0) := ⟨_, rfl⟩
  have hqq : ((p : Int) == 0) = q := by rw [hqe, Bool.eq_iff_iff]; simp
  rw [← hqe]
  have HC := hideIt hc
  have HDL := hideIt hdl
  clear hd hc hdl hD hqe ho
  have hsz0 : w0.heap.size = w.heap.size + 1 + 1 := by rw [HW0.out]; simp
  have HZ : Hid (Blk (w0.alloc (.cells (zeroD.map bv).toArray 30)) (w.heap.size + 1 + 1) 30 (zeroD.map bv)) := hsz0 ▸ Blk.new w0 30 (zeroD.map bv)
  have HO0 := hideIt (HP0.out.old.alloc (.cells (zeroD.map bv).toArray 30))
  have HR0 := hideIt (HP0.out.res.alloc (.cells (zeroD.map bv).toArray 30))
  have HBZ := hideIt (HP0.out.bel.alloc (by have := HP0.out.bel.size; exact this) (.cells (zeroD.map bv).toArray 30))
  rw [zero_cells, HW0.out] at HZ HO0 HR0 HBZ
  clear hsz0
  go_enter Tryd.func50, Tryd.ntmps50
  go_wp2_with (first
    | ((with_reducible refine at_load ?_); refine wpList_load_mid rfl 30 (.tmp 36) rfl b _ rfl (d.map bv) (.array 16 5) (range16 (by have := HC.out; rw [HW0.out] at this; exact this)) (by kernel_rfl) rfl (isize16 _ HDL.out) ?_)
    | ((with_reducible refine at_store ?_); refine wpList_put rfl 30 (.tmp 11) (.tmp 37) rfl (w.heap.size + 1 + 1) (d.map bv) _ _ rfl rfl HZ.out (by rw [List.length_map, HDL.out]; kernel_rfl) (by rw [List.length_map, List.length_map, HDL.out]; rfl) (bv_one _) ?_; intro w1 ht hb; have HE1 := hideIt hb; have HO1 := hideIt (ht.blk HO0.out (by omega)); have HR1 := hideIt (ht.blk HR0.out (by omega)); have HB1 := hideIt (ht.below HBZ.out (by omega)); clear ht hb)
    | ((with_reducible refine at_load ?_); refine wpList_get rfl 30 (.tmp 11) rfl (w.heap.size + 1 + 1) (d.map bv) 30 (.array 16 5) rfl HE1.out (by kernel_rfl) rfl (isize16 _ HDL.out) ?_)
    | ((with_reducible refine at_build ?_); refine wpList_build_is rfl 84 #[(0, .tmp 46), (1, .tmp 47), (2, .tmp 50)] rfl (pairC d d q).toArray (by rw [Array.toList_map]; exact built_pair d d HDL.out HDL.out q) ?_)
    | ((with_reducible refine at_store ?_); refine wpList_put rfl 84 (.tmp 10) (.tmp 51) rfl (w.heap.size + 1) (pairC d d q) _ _ rfl rfl HR1.out (isizeP _ _ HDL.out HDL.out _) (by rw [pairC_len _ _ (rfl : zeroD.length = 16) (rfl : zeroD.length = 16), pairC_len _ _ HDL.out HDL.out]) (pairC_one _ _ _) ?_; intro w2 ht hb; have HB2 := hideIt hb; have HT2 := hideIt ht; clear ht hb))
  exact bodyPost_ret (ret_blk rfl HB2.out _ rfl Tryd.underlying84 rfl (isizeP _ _ HDL.out HDL.out _)) rfl ⟨rfl, HT2.out.below HB1.out (by omega)⟩

set_option maxHeartbeats 1600000 in
set_option maxRecDepth 100000 in
theorem rpair_left (old : List UInt8) (ho : old.length = 16) (A : Option Addr) (B m n p c : Nat) (whole : Bool) (ds : List (List UInt8)) (w : World) (hn : n ≤ 9223372036854775807) (hm1 : 1 ≤ m) (hm : m < n) (hk : m ≤ splitK n) (hp : p + 1 ≤ 1000000000) (hD : Ds w B A ds.length ds) (hpd : p + 1 ≤ ds.length) (hpc : p + 1 ≤ c) (hB : B ≤ w.heap.size) (hT : Tab w 0)
    (x y : List UInt8) (hx : x.length = 16) (hy : y.length = 16) (ok : Bool)
    (hrec : ∀ W, Below w.heap.size w W → Calls Tryd.prog 50 #[dv old, .int .i64 (m : Int), .int .i64 (splitK n : Int), .bool whole, .slice A p c] W fun e w' => e = .returned (.agg (pairC x y ok).toArray) ∧ Below W.heap.size W w') :
    Calls Tryd.prog 50 #[dv old, .int .i64 (m : Int), .int .i64 (n : Int), .bool whole, .slice A (p + 1) c] w fun e w' => e = .returned (.agg (pairC x (nodeD y (ds.getD p [])) ok).toArray) ∧ Below w.heap.size w w' := by
  obtain ⟨w0, hw0⟩ : ∃ W, W = (w.alloc (.cells (old.map bv).toArray 30)).alloc (.cells (pairC zeroD zeroD false).toArray 84) := ⟨_, rfl⟩
  have HP0 : Hid (RPStart w w0 old) := by rw [hw0]; exact rp_start w old
  rw [pair_zero] at hw0
  have HW0 := hideIt hw0
  have HO := hideIt ho
  clear hw0
  obtain ⟨b, off, hAe, hbB, hc, hdl⟩ := ds_load (hD.below HP0.out.bel hB) (k := p) (by omega)
  have hhi := fun W => run_hi A (n := p + 1) (cap := c) (k := p) (by omega) W
  rw [hAe] at hhi hrec ⊢
  clear hAe
  obtain ⟨d, hd⟩ : ∃ d, d = ds.getD p [] := ⟨_, rfl⟩
  rw [← hd] at hc hdl ⊢
  have hne : ((m : Int) == (n : Int)) = false := by rw [beq_eq_false_iff_ne]; omega
  have HSP := hideIt (fun W => refSplit_any n (by omega) hn W)
  have hsp := splitK_spec n (by omega)
  obtain ⟨k, hke⟩ : ∃ k, k = splitK n := ⟨_, rfl⟩
  rw [← hke] at HSP hk hrec hsp
  obtain ⟨s1, s2, s3⟩ := hsp
  have hpp : (p : Int) < (p : Int) + 1 := by omega
  have htest : decide ((m : Int) ≤ (k : Int)) = true := by simp; omega
  have HREC := hideIt hrec
  have HC := hideIt hc
  have HDL := hideIt hdl
  have HX := hideIt hx
  have HY := hideIt hy
  have HT := hideIt hT
  have HN := hideIt (fun (W : World) (h : Tab W 0) => refNode_any y d hy hdl W h)
  obtain ⟨z, hz⟩ : ∃ z, z = nodeD y d := ⟨_, rfl⟩
  have HZL : Hid (z.length = 16) := by rw [hz]; exact cutD_len _
  rw [← hz] at HN ⊢
  clear hz
  clear hd hc hdl hx hy hT hD hrec hke ho
  have hsz0 : w0.heap.size = w.heap.size + 1 + 1 := by rw [HW0.out]; simp
  have HZ : Hid (Blk (w0.alloc (.cells (zeroD.map bv).toArray 30)) (w.heap.size + 1 + 1) 30 (zeroD.map bv)) := hsz0 ▸ Blk.new w0 30 (zeroD.map bv)
  have HO0 := hideIt (HP0.out.old.alloc (.cells (zeroD.map bv).toArray 30))
  have HR0 := hideIt (HP0.out.res.alloc (.cells (zeroD.map bv).toArray 30))
  have HBZ := hideIt (HP0.out.bel.alloc (by have := HP0.out.bel.size; exact this) (.cells (zeroD.map bv).toArray 30))
  rw [zero_cells, HW0.out] at HZ HO0 HR0 HBZ
  clear hsz0
  go_enter Tryd.func50, Tryd.ntmps50
  go_wp2_with (first
    | ((with_reducible refine at_load ?_); refine wpList_load_mid rfl 30 (.tmp 36) rfl b _ rfl (d.map bv) (.array 16 5) (range16 (by have := HC.out; rw [HW0.out] at this; exact this)) (by kernel_rfl) rfl (isize16 _ HDL.out) ?_)
    | ((with_reducible refine at_store ?_); refine wpList_put rfl 30 (.tmp 11) (.tmp 37) rfl (w.heap.size + 1 + 1) (d.map bv) _ _ rfl rfl HZ.out (by rw [List.length_map, HDL.out]; kernel_rfl) (by rw [List.length_map, List.length_map, HDL.out]; rfl) (bv_one _) ?_; intro w1 ht hb; have HE1 := hideIt hb; have HO1 := hideIt (ht.blk HO0.out (by omega)); have HR1 := hideIt (ht.blk HR0.out (by omega)); have HB1 := hideIt (ht.below HBZ.out (by omega)); clear ht hb)
    | (go_at_call 40; refine (HSP.out _).mono ?_; rintro e w' ⟨rfl, rfl⟩)
    | ((with_reducible refine at_load ?_); refine wpList_get rfl 30 (.tmp 5) rfl w.heap.size (old.map bv) 30 (.array 16 5) rfl HO1.out (by kernel_rfl) rfl (isize16 _ HO.out) ?_)
    | (go_at_call 50; refine (HREC.out _ HB1.out).mono ?_; rintro e w2 ⟨rfl, hb⟩; have HB2 := hideIt (HB1.out.trans (hb.mono HB1.out.size)); have HE2 := hideIt (HE1.out.kept hb HE1.out.lt); have HR2 := hideIt (HR1.out.kept hb HR1.out.lt); clear hb)
    | ((with_reducible refine at_store ?_); refine wpList_put rfl 84 (.tmp 14) (.tmp 62) rfl w2.heap.size (pairC x y ok) _ _ rfl rfl (Blk.new w2 84 (pairC zeroD zeroD false)) (isizeP _ _ HX.out HY.out _) (by rw [pairC_len _ _ (rfl : zeroD.length = 16) (rfl : zeroD.length = 16), pairC_len _ _ HX.out HY.out]) (pairC_one _ _ _) ?_; intro w3 ht hb; have HG3 := hideIt hb; have HE3 := hideIt (ht.blk (HE2.out.alloc (.cells (pairC zeroD zeroD false).toArray 84)) (by have := HE2.out.lt; omega)); have HR3 := hideIt (ht.blk (HR2.out.alloc (.cells (pairC zeroD zeroD false).toArray 84)) (by have := HR2.out.lt; omega)); have HB3 := hideIt (ht.below (HB2.out.alloc HB2.out.size (.cells (pairC zeroD zeroD false).toArray 84)) HB2.out.size); clear ht hb))
  refine loads_begin_n 10 [(8, fun W' => Blk W' w2.heap.size 84 (pairC x y ok)), (8, fun W' => W'.cell? ⟨w2.heap.size, 32, none⟩ = some (.bool ok)), (5, fun W' => Blk W' w2.heap.size 84 (pairC x y ok) ∧ Blk W' (w.heap.size + 1 + 1) 30 (d.map bv))] rfl (by kernel_rfl) ?_
  refine wpAnyL_move (oi := ⟨some 63, _, _, _, _, _⟩) 0 ?_ rfl (by kernel_rfl) (by kernel_rfl) (by kernel_rfl) (by kernel_rfl) (fun _ _ _ h => h) (by kernel_rfl) ?_ (Hooks.add HG3.out (Hooks.add (pair_rk HX.out HY.out HG3.out) (Hooks.add ⟨HG3.out, HE3.out⟩ (Hooks.nil _ _)))) ?_
  rotate_left
  · intro W'; go_simp; first | done | with_reducible rfl
  try simp only [Act.put]
  try simp only [List.setIfInBounds_toArray]
  try simp only [List.set_cons_succ]
  try simp only [List.set_cons_zero]
  refine wpAnyL_take (oi := ⟨some 64, _, _, _, _, _⟩) 1 8 (.agg (x.map bv).toArray) _ rfl (by kernel_rfl) (by kernel_rfl) (by kernel_rfl) (by kernel_rfl) (by kernel_rfl) (by kernel_rfl) (.head _) (fun _ _ _ h => h) (by kernel_rfl) (fun W' hW' => exec_load_mid rfl rfl (pair_rx hW') (.array 16 5) (by kernel_rfl) rfl (isize16 _ HX.out)) (Hooks.add HG3.out (Hooks.add (pair_rk HX.out HY.out HG3.out) (Hooks.add ⟨HG3.out, HE3.out⟩ (Hooks.nil _ _)))) ?_
  try simp only [Act.put]
  try simp only [List.setIfInBounds_toArray]
  try simp only [List.set_cons_succ]
  try simp only [List.set_cons_zero]
  refine wpAnyL_move (oi := ⟨some 65, _, _, _, _, _⟩) 2 ?_ rfl (by kernel_rfl) (by kernel_rfl) (by kernel_rfl) (by kernel_rfl) (fun _ _ _ h => h) (by kernel_rfl) ?_ (Hooks.add HG3.out (Hooks.add (pair_rk HX.out HY.out HG3.out) (Hooks.add ⟨HG3.out, HE3.out⟩ (Hooks.nil _ _)))) ?_
  rotate_left
  · intro W'; go_simp; first | done | with_reducible rfl
  try simp only [Act.put]
  try simp only [List.setIfInBounds_toArray]
  try simp only [List.set_cons_succ]
  try simp only [List.set_cons_zero]
  refine wpAnyL_take (oi := ⟨some 66, _, _, _, _, _⟩) 3 5 (.agg (y.map bv).toArray) _ rfl (by kernel_rfl) (by kernel_rfl) (by kernel_rfl) (by kernel_rfl) (by kernel_rfl) (by kernel_rfl) (.tail _ (.tail _ (.head _))) (fun _ _ _ h => h) (by kernel_rfl) (fun W' hW' => exec_load_mid rfl rfl (pair_ry HX.out hW'.1) (.array 16 5) (by kernel_rfl) rfl (isize16 _ HY.out)) (Hooks.add HG3.out (Hooks.add (pair_rk HX.out HY.out HG3.out) (Hooks.add ⟨HG3.out, HE3.out⟩ (Hooks.nil _ _)))) ?_
  try simp only [Act.put]
  try simp only [List.setIfInBounds_toArray]
  try simp only [List.set_cons_succ]
  try simp only [List.set_cons_zero]
  refine wpAnyL_take (oi := ⟨some 67, _, _, _, _, _⟩) 4 5 (.agg (d.map bv).toArray) _ rfl (by kernel_rfl) (by kernel_rfl) (by kernel_rfl) (by kernel_rfl) (by kernel_rfl) (by kernel_rfl) (.tail _ (.tail _ (.head _))) (fun _ _ _ h => h) (by kernel_rfl) (fun W' hW' => exec_load_blk rfl rfl (hW'.2) (.array 16 5) (by kernel_rfl) rfl (isize16 _ HDL.out)) (Hooks.add HG3.out (Hooks.add (pair_rk HX.out HY.out HG3.out) (Hooks.add ⟨HG3.out, HE3.out⟩ (Hooks.nil _ _)))) ?_
  try simp only [Act.put]
  try simp only [List.setIfInBounds_toArray]
  try simp only [List.set_cons_succ]
  try simp only [List.set_cons_zero]
  refine wpAnyL_move (oi := ⟨some 69, _, _, _, _, _⟩) 6 ?_ rfl (by kernel_rfl) (by kernel_rfl) (by kernel_rfl) (by kernel_rfl) (fun _ _ _ h => h) (by kernel_rfl) ?_ (Hooks.add HG3.out (Hooks.add (pair_rk HX.out HY.out HG3.out) (Hooks.add ⟨HG3.out, HE3.out⟩ (Hooks.nil _ _)))) ?_
  rotate_left
  · intro W'; go_simp; first | done | with_reducible rfl
  try simp only [Act.put]
  try simp only [List.setIfInBounds_toArray]
  try simp only [List.set_cons_succ]
  try simp only [List.set_cons_zero]
  refine wpAnyL_take (oi := ⟨some 70, _, _, _, _, _⟩) 7 8 (.bool ok) _ rfl (by kernel_rfl) (by kernel_rfl) (by kernel_rfl) (by kernel_rfl) (by kernel_rfl) (by kernel_rfl) (.tail _ (.head _)) (fun _ _ _ h => h) (by kernel_rfl) (fun W' hW' => by (try dsimp only at hW'); go_simp) (Hooks.add HG3.out (Hooks.add (pair_rk HX.out HY.out HG3.out) (Hooks.add ⟨HG3.out, HE3.out⟩ (Hooks.nil _ _)))) ?_
  try simp only [Act.put]
  try simp only [List.setIfInBounds_toArray]
  try simp only [List.set_cons_succ]
  try simp only [List.set_cons_zero]
  refine wpAnyL_one 5 (by kernel_rfl) rfl (fun K hK => ?_)
  go_wp2_with (go_at_call 47; refine (HN.out _ (HT.out.keep HB3.out.drew)).mono ?_; rintro e w4 ⟨rfl, hb⟩; have hb' : Below w3.heap.size w3 w4 := ((Below.refl _ _).drew).trans hb; have HG4 := hideIt (HG3.out.kept hb' HG3.out.lt); have HR4 := hideIt (HR3.out.kept hb' HR3.out.lt); have HB4 := hideIt (HB3.out.trans (hb'.mono HB3.out.size)); clear hb hb')
  refine hK _ _ (Hooks.add HG4.out (Hooks.add (pair_rk HX.out HY.out HG4.out) (Hooks.skip (by kernel_rfl) (Hooks.nil _ _)))) ?_
  clear hK K
  refine loads_tail 8 (by kernel_rfl) (by kernel_rfl) (by kernel_rfl) (by kernel_rfl) ?_
  simp only [List.drop_succ_cons, List.drop_zero]
  go_wp2_with (first
    | ((with_reducible refine at_build ?_); refine wpList_build_is rfl 84 #[(0, .tmp 64), (1, .tmp 68), (2, .tmp 70)] rfl (pairC x z ok).toArray (by rw [Array.toList_map]; exact built_pair x z HX.out HZL.out ok) ?_)
    | ((with_reducible refine at_store ?_); refine wpList_put rfl 84 (.tmp 10) (.tmp 71) rfl (w.heap.size + 1) (pairC x z ok) _ _ rfl rfl HR4.out (isizeP _ _ HX.out HZL.out _) (by rw [pairC_len _ _ (rfl : zeroD.length = 16) (rfl : zeroD.length = 16), pairC_len _ _ HX.out HZL.out]) (pairC_one _ _ _) ?_; intro w5 ht hb; have HB5 := hideIt hb; have HT5 := hideIt ht; clear ht hb))
  exact bodyPost_ret (ret_blk rfl HB5.out _ rfl Tryd.underlying84 rfl (isizeP _ _ HX.out HZL.out _)) rfl ⟨rfl, HT5.out.below HB4.out (by omega)⟩

set_option maxHeartbeats 1600000 in
set_option maxRecDepth 100000 in
theorem rpair_right (old : List UInt8) (ho : old.length = 16) (A : Option Addr) (B m n p c : Nat) (whole : Bool) (ds : List (List UInt8)) (w : World) (hn : n ≤ 9223372036854775807) (hm1 : 1 ≤ m) (hm : m < n) (hk : ¬ m ≤ splitK n) (hp : p + 1 ≤ 1000000000) (hD : Ds w B A ds.length ds) (hpd : p + 1 ≤ ds.length) (hpc : p + 1 ≤ c) (hB : B ≤ w.heap.size) (hT : Tab w 0)
    (x y : List UInt8) (hx : x.length = 16) (hy : y.length = 16) (ok : Bool)
    (hrec : ∀ W, Below w.heap.size w W → Calls Tryd.prog 50 #[dv old, .int .i64 ((m : Int) - (splitK n : Int)), .int .i64 ((n : Int) - (splitK n : Int)), .bool false, .slice A p c] W fun e w' => e = .returned (.agg (pairC x y ok).toArray) ∧ Below W.heap.size W w') :
    Calls Tryd.prog 50 #[dv old, .int .i64 (m : Int), .int .i64 (n : Int), .bool whole, .slice A (p + 1) c] w fun e w' => e = .returned (.agg (pairC (nodeD (ds.getD p []) x) (nodeD (ds.getD p []) y) ok).toArray) ∧ Below w.heap.size w w' := by
  obtain ⟨w0, hw0⟩ : ∃ W, W = (w.alloc (.cells (old.map bv).toArray 30)).alloc (.cells (pairC zeroD zeroD false).toArray 84) := ⟨_, rfl⟩
  have HP0 : Hid (RPStart w w0 old) := by rw [hw0]; exact rp_start w old
  rw [pair_zero] at hw0
  have HW0 := hideIt hw0
  have HO := hideIt ho
  clear hw0
  obtain ⟨b, off, hAe, hbB, hc, hdl⟩ := ds_load (hD.below HP0.out.bel hB) (k := p) (by omega)
  have hhi := fun W => run_hi A (n := p + 1) (cap := c) (k := p) (by omega) W
  rw [hAe] at hhi hrec ⊢
  clear hAe
  obtain ⟨d, hd⟩ : ∃ d, d = ds.getD p [] := ⟨_, rfl⟩
  rw [← hd] at hc hdl ⊢
  have hne : ((m : Int) == (n : Int)) = false := by rw [beq_eq_false_iff_ne]; omega
  have HSP := hideIt (fun W => refSplit_any n (by omega) hn W)
  have hsp := splitK_spec n (by omega)
  obtain ⟨k, hke⟩ : ∃ k, k = splitK n := ⟨_, rfl⟩
  rw [← hke] at HSP hk hrec hsp
  obtain ⟨s1, s2, s3⟩ := hsp
  have hpp : (p : Int) < (p : Int) + 1 := by omega
  have htest : decide ((m : Int) ≤ (k : Int)) = false := by simp; omega
  have HREC := hideIt hrec
  have HC := hideIt hc
  have HDL := hideIt hdl
  have HX := hideIt hx
  have HY := hideIt hy
  have HT := hideIt hT
  have HN1 := hideIt (fun (W : World) (h : Tab W 0) => refNode_any d x hdl hx W h)
  have HN := hideIt (fun (W : World) (h : Tab W 0) => refNode_any d y hdl hy W h)
  obtain ⟨z1, hz1⟩ : ∃ z, z = nodeD d x := ⟨_, rfl⟩
  obtain ⟨z, hz⟩ : ∃ z, z = nodeD d y := ⟨_, rfl⟩
  have HZL1 : Hid (z1.length = 16) := by rw [hz1]; exact cutD_len _
  have HZL : Hid (z.length = 16) := by rw [hz]; exact cutD_len _
  rw [← hz1] at HN1 ⊢
  rw [← hz] at HN ⊢
  clear hz hz1
  clear hd hc hdl hx hy hT hD hrec hke ho
  have hsz0 : w0.heap.size = w.heap.size + 1 + 1 := by rw [HW0.out]; simp
  have HZ : Hid (Blk (w0.alloc (.cells (zeroD.map bv).toArray 30)) (w.heap.size + 1 + 1) 30 (zeroD.map bv)) := hsz0 ▸ Blk.new w0 30 (zeroD.map bv)
  have HO0 := hideIt (HP0.out.old.alloc (.cells (zeroD.map bv).toArray 30))
  have HR0 := hideIt (HP0.out.res.alloc (.cells (zeroD.map bv).toArray 30))
  have HBZ := hideIt (HP0.out.bel.alloc (by have := HP0.out.bel.size; exact this) (.cells (zeroD.map bv).toArray 30))
  rw [zero_cells, HW0.out] at HZ HO0 HR0 HBZ
  clear hsz0
  go_enter Tryd.func50, Tryd.ntmps50
  go_wp2_with (first
    | ((with_reducible refine at_load ?_); refine wpList_load_mid rfl 30 (.tmp 36) rfl b _ rfl (d.map bv) (.array 16 5) (range16 (by have := HC.out; rw [HW0.out] at this; exact this)) (by kernel_rfl) rfl (isize16 _ HDL.out) ?_)
    | ((with_reducible refine at_store ?_); refine wpList_put rfl 30 (.tmp 11) (.tmp 37) rfl (w.heap.size + 1 + 1) (d.map bv) _ _ rfl rfl HZ.out (by rw [List.length_map, HDL.out]; kernel_rfl) (by rw [List.length_map, List.length_map, HDL.out]; rfl) (bv_one _) ?_; intro w1 ht hb; have HE1 := hideIt hb; have HO1 := hideIt (ht.blk HO0.out (by omega)); have HR1 := hideIt (ht.blk HR0.out (by omega)); have HB1 := hideIt (ht.below HBZ.out (by omega)); clear ht hb)
    | (go_at_call 40; refine (HSP.out _).mono ?_; rintro e w' ⟨rfl, rfl⟩)
    | ((with_reducible refine at_load ?_); refine wpList_get rfl 30 (.tmp 5) rfl w.heap.size (old.map bv) 30 (.array 16 5) rfl HO1.out (by kernel_rfl) rfl (isize16 _ HO.out) ?_)
    | (go_at_call 50; refine (HREC.out _ HB1.out).mono ?_; rintro e w2 ⟨rfl, hb⟩; have HB2 := hideIt (HB1.out.trans (hb.mono HB1.out.size)); have HE2 := hideIt (HE1.out.kept hb HE1.out.lt); have HR2 := hideIt (HR1.out.kept hb HR1.out.lt); clear hb)
    | ((with_reducible refine at_store ?_); refine wpList_put rfl 84 (.tmp 15) (.tmp 80) rfl w2.heap.size (pairC x y ok) _ _ rfl rfl (Blk.new w2 84 (pairC zeroD zeroD false)) (isizeP _ _ HX.out HY.out _) (by rw [pairC_len _ _ (rfl : zeroD.length = 16) (rfl : zeroD.length = 16), pairC_len _ _ HX.out HY.out]) (pairC_one _ _ _) ?_; intro w3 ht hb; have HG3 := hideIt hb; have HE3 := hideIt (ht.blk (HE2.out.alloc (.cells (pairC zeroD zeroD false).toArray 84)) (by have := HE2.out.lt; omega)); have HR3 := hideIt (ht.blk (HR2.out.alloc (.cells (pairC zeroD zeroD false).toArray 84)) (by have := HR2.out.lt; omega)); have HB3 := hideIt (ht.below (HB2.out.alloc HB2.out.size (.cells (pairC zeroD zeroD false).toArray 84)) HB2.out.size); clear ht hb))
  refine loads_begin_n 12 [(3, fun W' => Blk W' w2.heap.size 84 (pairC x y ok) ∧ Blk W' (w.heap.size + 1 + 1) 30 (d.map bv)), (7, fun W' => Blk W' w2.heap.size 84 (pairC x y ok) ∧ Blk W' (w.heap.size + 1 + 1) 30 (d.map bv)), (10, fun W' => W'.cell? ⟨w2.heap.size, 32, none⟩ = some (.bool ok))] rfl (by kernel_rfl) ?_
  refine wpAnyL_take (oi := ⟨some 81, _, _, _, _, _⟩) 0 3 (.agg (d.map bv).toArray) _ rfl (by kernel_rfl) (by kernel_rfl) (by kernel_rfl) (by kernel_rfl) (by kernel_rfl) (by kernel_rfl) (.head _) (fun _ _ _ h => h) (by kernel_rfl) (fun W' hW' => exec_load_blk rfl rfl (hW'.2) (.array 16 5) (by kernel_rfl) rfl (isize16 _ HDL.out)) (Hooks.add ⟨HG3.out, HE3.out⟩ (Hooks.add ⟨HG3.out, HE3.out⟩ (Hooks.add (pair_rk HX.out HY.out HG3.out) (Hooks.nil _ _)))) ?_
  try simp only [Act.put]
  try simp only [List.setIfInBounds_toArray]
  try simp only [List.set_cons_succ]
  try simp only [List.set_cons_zero]
  refine wpAnyL_move (oi := ⟨some 82, _, _, _, _, _⟩) 1 ?_ rfl (by kernel_rfl) (by kernel_rfl) (by kernel_rfl) (by kernel_rfl) (fun _ _ _ h => h) (by kernel_rfl) ?_ (Hooks.add ⟨HG3.out, HE3.out⟩ (Hooks.add ⟨HG3.out, HE3.out⟩ (Hooks.add (pair_rk HX.out HY.out HG3.out) (Hooks.nil _ _)))) ?_
  rotate_left
  · intro W'; go_simp; first | done | with_reducible rfl
  try simp only [Act.put]
  try simp only [List.setIfInBounds_toArray]
  try simp only [List.set_cons_succ]
  try simp only [List.set_cons_zero]
  refine wpAnyL_take (oi := ⟨some 83, _, _, _, _, _⟩) 2 3 (.agg (x.map bv).toArray) _ rfl (by kernel_rfl) (by kernel_rfl) (by kernel_rfl) (by kernel_rfl) (by kernel_rfl) (by kernel_rfl) (.head _) (fun _ _ _ h => h) (by kernel_rfl) (fun W' hW' => exec_load_mid rfl rfl (pair_rx hW'.1) (.array 16 5) (by kernel_rfl) rfl (isize16 _ HX.out)) (Hooks.add ⟨HG3.out, HE3.out⟩ (Hooks.add ⟨HG3.out, HE3.out⟩ (Hooks.add (pair_rk HX.out HY.out HG3.out) (Hooks.nil _ _)))) ?_
  try simp only [Act.put]
  try simp only [List.setIfInBounds_toArray]
  try simp only [List.set_cons_succ]
  try simp only [List.set_cons_zero]
  refine wpAnyL_take (oi := ⟨some 85, _, _, _, _, _⟩) 4 7 (.agg (d.map bv).toArray) _ rfl (by kernel_rfl) (by kernel_rfl) (by kernel_rfl) (by kernel_rfl) (by kernel_rfl) (by kernel_rfl) (.tail _ (.head _)) (fun _ _ _ h => h) (by kernel_rfl) (fun W' hW' => exec_load_blk rfl rfl (hW'.2) (.array 16 5) (by kernel_rfl) rfl (isize16 _ HDL.out)) (Hooks.add ⟨HG3.out, HE3.out⟩ (Hooks.add ⟨HG3.out, HE3.out⟩ (Hooks.add (pair_rk HX.out HY.out HG3.out) (Hooks.nil _ _)))) ?_
  try simp only [Act.put]
  try simp only [List.setIfInBounds_toArray]
  try simp only [List.set_cons_succ]
  try simp only [List.set_cons_zero]
  refine wpAnyL_move (oi := ⟨some 86, _, _, _, _, _⟩) 5 ?_ rfl (by kernel_rfl) (by kernel_rfl) (by kernel_rfl) (by kernel_rfl) (fun _ _ _ h => h) (by kernel_rfl) ?_ (Hooks.add ⟨HG3.out, HE3.out⟩ (Hooks.add ⟨HG3.out, HE3.out⟩ (Hooks.add (pair_rk HX.out HY.out HG3.out) (Hooks.nil _ _)))) ?_
  rotate_left
  · intro W'; go_simp; first | done | with_reducible rfl
  try simp only [Act.put]
  try simp only [List.setIfInBounds_toArray]
  try simp only [List.set_cons_succ]
  try simp only [List.set_cons_zero]
  refine wpAnyL_take (oi := ⟨some 87, _, _, _, _, _⟩) 6 7 (.agg (y.map bv).toArray) _ rfl (by kernel_rfl) (by kernel_rfl) (by kernel_rfl) (by kernel_rfl) (by kernel_rfl) (by kernel_rfl) (.tail _ (.head _)) (fun _ _ _ h => h) (by kernel_rfl) (fun W' hW' => exec_load_mid rfl rfl (pair_ry HX.out hW'.1) (.array 16 5) (by kernel_rfl) rfl (isize16 _ HY.out)) (Hooks.add ⟨HG3.out, HE3.out⟩ (Hooks.add ⟨HG3.out, HE3.out⟩ (Hooks.add (pair_rk HX.out HY.out HG3.out) (Hooks.nil _ _)))) ?_
  try simp only [Act.put]
  try simp only [List.setIfInBounds_toArray]
  try simp only [List.set_cons_succ]
  try simp only [List.set_cons_zero]
  refine wpAnyL_move (oi := ⟨some 89, _, _, _, _, _⟩) 8 ?_ rfl (by kernel_rfl) (by kernel_rfl) (by kernel_rfl) (by kernel_rfl) (fun _ _ _ h => h) (by kernel_rfl) ?_ (Hooks.add ⟨HG3.out, HE3.out⟩ (Hooks.add ⟨HG3.out, HE3.out⟩ (Hooks.add (pair_rk HX.out HY.out HG3.out) (Hooks.nil _ _)))) ?_
  rotate_left
  · intro W'; go_simp; first | done | with_reducible rfl
  try simp only [Act.put]
  try simp only [List.setIfInBounds_toArray]
  try simp only [List.set_cons_succ]
  try simp only [List.set_cons_zero]
  refine wpAnyL_take (oi := ⟨some 90, _, _, _, _, _⟩) 9 10 (.bool ok) _ rfl (by kernel_rfl) (by kernel_rfl) (by kernel_rfl) (by kernel_rfl) (by kernel_rfl) (by kernel_rfl) (.tail _ (.tail _ (.head _))) (fun _ _ _ h => h) (by kernel_rfl) (fun W' hW' => by (try dsimp only at hW'); go_simp) (Hooks.add ⟨HG3.out, HE3.out⟩ (Hooks.add ⟨HG3.out, HE3.out⟩ (Hooks.add (pair_rk HX.out HY.out HG3.out) (Hooks.nil _ _)))) ?_
  try simp only [Act.put]
  try simp only [List.setIfInBounds_toArray]
  try simp only [List.set_cons_succ]
  try simp only [List.set_cons_zero]
  refine wpAnyL_one 3 (by kernel_rfl) rfl (fun K hK => ?_)
  go_wp2_with (go_at_call 47; refine (HN1.out _ (HT.out.keep HB3.out.drew)).mono ?_; rintro e w4 ⟨rfl, hb⟩; have hb' : Below w3.heap.size w3 w4 := ((Below.refl _ _).drew).trans hb; have HG4 := hideIt (HG3.out.kept hb' HG3.out.lt); have HE4 := hideIt (HE3.out.kept hb' HE3.out.lt); have HR4 := hideIt (HR3.out.kept hb' HR3.out.lt); have HB4 := hideIt (HB3.out.trans (hb'.mono HB3.out.size)); clear hb hb')
  refine hK _ _ (Hooks.skip (by kernel_rfl) (Hooks.add ⟨HG4.out, HE4.out⟩ (Hooks.add (pair_rk HX.out HY.out HG4.out) (Hooks.nil _ _)))) ?_
  clear hK K
  refine wpAnyL_one 7 (by kernel_rfl) rfl (fun K hK => ?_)
  go_wp2_with (go_at_call 47; refine (HN.out _ (HT.out.keep HB4.out)).mono ?_; rintro e w5 ⟨rfl, hb⟩; have HG5 := hideIt (HG4.out.kept hb HG4.out.lt); have HR5 := hideIt (HR4.out.kept hb HR4.out.lt); have HB5 := hideIt (HB4.out.trans (hb.mono HB4.out.size)); clear hb)
  refine hK _ _ (Hooks.skip (by kernel_rfl) (Hooks.skip (by kernel_rfl) (Hooks.add (pair_rk HX.out HY.out HG5.out) (Hooks.nil _ _)))) ?_
  clear hK K
  refine loads_tail 10 (by kernel_rfl) (by kernel_rfl) (by kernel_rfl) (by kernel_rfl) ?_
  simp only [List.drop_succ_cons, List.drop_zero]
  go_wp2_with (first
    | ((with_reducible refine at_build ?_); refine wpList_build_is rfl 84 #[(0, .tmp 84), (1, .tmp 88), (2, .tmp 90)] rfl (pairC z1 z ok).toArray (by rw [Array.toList_map]; exact built_pair z1 z HZL1.out HZL.out ok) ?_)
    | ((with_reducible refine at_store ?_); refine wpList_put rfl 84 (.tmp 10) (.tmp 91) rfl (w.heap.size + 1) (pairC z1 z ok) _ _ rfl rfl HR5.out (isizeP _ _ HZL1.out HZL.out _) (by rw [pairC_len _ _ (rfl : zeroD.length = 16) (rfl : zeroD.length = 16), pairC_len _ _ HZL1.out HZL.out]) (pairC_one _ _ _) ?_; intro w6 ht hb; have HB6 := hideIt hb; have HT6 := hideIt ht; clear ht hb))
  exact bodyPost_ret (ret_blk rfl HB6.out _ rfl Tryd.underlying84 rfl (isizeP _ _ HZL1.out HZL.out _)) rfl ⟨rfl, HT6.out.below HB5.out (by omega)⟩

theorem rpair_any (old : List UInt8) (ho : old.length = 16) (A : Option Addr) (B c : Nat) (ds : List (List UInt8)) : ∀ (p m n : Nat) (whole : Bool) (w : World), n ≤ 9223372036854775807 → 1 ≤ m → m ≤ n → p ≤ ds.length → p ≤ c → p ≤ 1000000000 → Ds w B A ds.length ds → B ≤ w.heap.size → Tab w 0 →
    Calls Tryd.prog 50 #[dv old, .int .i64 (m : Int), .int .i64 (n : Int), .bool whole, .slice A p c] w fun e w' =>
      e = .returned (.agg (pairC (pairG true old ds p m n whole).1 (pairG true old ds p m n whole).2.1 (pairG true old ds p m n whole).2.2).toArray) ∧ Below w.heap.size w w' := by
  intro p
  induction p with
  | zero =>
    intro m n whole w hn hm1 hm hp hpc hp9 hD hB hT
    unfold pairG
    by_cases hw : m = n ∧ whole = true
    · obtain ⟨rfl, rfl⟩ := hw
      have := rpair_whole old ho A m 0 c w hn (by omega)
      simpa using this
    · rw [if_neg hw]
      exact rpair_short old ho A m n c whole w hn hm hw
  | succ p ih =>
    intro m n whole w hn hm1 hm hp hpc hp9 hD hB hT
    have hdl := hD.2.1
    by_cases hw : m = n ∧ whole = true
    · obtain ⟨rfl, rfl⟩ := hw
      have := rpair_whole old ho A m (p + 1) c w hn (by omega)
      unfold pairG
      simpa using this
    · by_cases hmn : m = n
      · subst hmn
        obtain rfl : whole = false := by cases whole <;> simp_all
        have := rpair_one old ho A B m p c ds w hn hp9 hD hp hpc hB
        unfold pairG
        rw [if_neg hw, if_pos rfl]
        exact this
      · have hs := splitK_spec n (by omega)
        by_cases hk : m ≤ splitK n
        · have hl := pairG_len true old ds ho hdl p m (splitK n) whole (by omega)
          have := rpair_left old ho A B m n p c whole ds w hn hm1 (by omega) hk hp9 hD hp hpc hB hT _ _ hl.1 hl.2 (pairG true old ds p m (splitK n) whole).2.2
            (fun W hW => ih m (splitK n) whole W (by omega) hm1 hk (by omega) (by omega) (by omega) (hD.below hW hB) (Nat.le_trans hB hW.size) (hT.keep hW))
          unfold pairG
          rw [if_neg hw, if_neg hmn, if_pos hk]
          exact this
        · have hl := pairG_len true old ds ho hdl p (m - splitK n) (n - splitK n) false (by omega)
          have := rpair_right old ho A B m n p c whole ds w hn hm1 (by omega) hk hp9 hD hp hpc hB hT _ _ hl.1 hl.2 (pairG true old ds p (m - splitK n) (n - splitK n) false).2.2
            (fun W hW => by
              have h9 := ih (m - splitK n) (n - splitK n) false W (by omega) (by omega) (by omega) (by omega) (by omega) (by omega) (hD.below hW hB) (Nat.le_trans hB hW.size) (hT.keep hW)
              rw [show ((m - splitK n : Nat) : Int) = (m : Int) - (splitK n : Int) by omega, show ((n - splitK n : Nat) : Int) = (n : Int) - (splitK n : Int) by omega] at h9
              exact h9)
          unfold pairG
          rw [if_neg hw, if_neg hmn, if_neg hk]
          exact this

set_option maxHeartbeats 800000 in
set_option maxRecDepth 100000 in
theorem rvp_out (old root : List UInt8) (m n : Int) (A : Option Addr) (p c : Nat) (w : World) (h : m < 1 ∨ n < m) :
    Calls Tryd.prog 25 #[dv old, dv root, .int .i64 m, .int .i64 n, .slice A p c] w fun e w' => e = .returned (.bool false) ∧ Below w.heap.size w w' := by
  have hz1 : (w.alloc (.cells (old.map bv).toArray 30)).heap.size = w.heap.size + 1 := by simp
  have HB0 := hideIt ((below_new w (.cells (old.map bv).toArray 30)).alloc (by rw [hz1]; omega) (.cells (root.map bv).toArray 30))
  clear hz1
  by_cases h0 : m < 1
  · clear h
    go_enter Tryd.func25, Tryd.ntmps25
    go_wp2
    go_ret
    exact ⟨rfl, HB0.out⟩
  · have h1 : n < m := by omega
    have h2 : decide (m < 1) = false := by simpa using h0
    have h3 : decide (n < m) = true := by simpa using h1
    clear h
    go_enter Tryd.func25, Tryd.ntmps25
    go_wp2
    go_ret
    exact ⟨rfl, HB0.out⟩

/-- A load of an array in the midst of a block, behind a guard that let it by. -/
theorem wpList_mid_g {P : Program} {ops : Array Oper} {rest : List Oper} {o : Oper} {a : Act} {w : World} {Q : Exit → Act → World → Prop} (hw : Region.wanted o (yielded ops a.tmps) = true) (ty : TypeId) (x : Operand) (ho : o.op = .load ty x)
    (b off : Nat) (cs : List Value) (d : TypeDesc) (hx : a.eval x = .pointer (some ⟨b, off, none⟩)) (hg : w.rangeAt b off cs) (hu : P.underlying ty = some d) (hd : d.isRow = true)
    (hi : (P.info? ty).map (·.size) = some cs.length) (h : wpList P ops Q rest (a.put o.dst (.agg cs.toArray)) w) : wpList P ops Q (o :: rest) a w := by
  refine wpList_wanted hw ?_
  unfold Oper.wp execOp
  simp only [ho, hx, Sem.run_bind, run_loadAt_mid w b off ty cs d hg hu hd hi, Result.andThen_ok, Sem.run_pure]
  exact h

set_option maxHeartbeats 1600000 in
set_option maxRecDepth 100000 in
theorem rvp_of (old root : List UInt8) (ho : old.length = 16) (hr : root.length = 16) (m n : Int) (A : Option Addr) (p c : Nat) (w : World) (hm1 : 1 ≤ m) (hm : m ≤ n) (x y : List UInt8) (hx : x.length = 16) (hy : y.length = 16) (ok : Bool)
    (hP : ∀ W, Below w.heap.size w W → Calls Tryd.prog 50 #[dv old, .int .i64 m, .int .i64 n, .bool true, .slice A p c] W fun e w' => e = .returned (.agg (pairC x y ok).toArray) ∧ Below W.heap.size W w') :
    Calls Tryd.prog 25 #[dv old, dv root, .int .i64 m, .int .i64 n, .slice A p c] w fun e w' => e = .returned (.bool (ok && decide (x = old) && decide (y = root))) ∧ Below w.heap.size w w' := by
  have h2 : decide (m < 1) = false := by simp; omega
  have h3 : decide (n < m) = false := by simp; omega
  have HO := hideIt ho
  have HR := hideIt hr
  have HX := hideIt hx
  have HY := hideIt hy
  have HP := hideIt hP
  have hz1 : (w.alloc (.cells (old.map bv).toArray 30)).heap.size = w.heap.size + 1 := by simp
  have HB0 := hideIt ((below_new w (.cells (old.map bv).toArray 30)).alloc (by rw [hz1]; omega) (.cells (root.map bv).toArray 30))
  have HK0 := hideIt ((Blk.new w 30 (old.map bv)).alloc (.cells (root.map bv).toArray 30))
  have HK1 : Hid (Blk ((w.alloc (.cells (old.map bv).toArray 30)).alloc (.cells (root.map bv).toArray 30)) (w.heap.size + 1) 30 (root.map bv)) := hz1 ▸ Blk.new (w.alloc (.cells (old.map bv).toArray 30)) 30 (root.map bv)
  have he1 := equal_digest x old hx ho
  have he2 := equal_digest y root hy hr
  clear hr ho hx hy hP hz1
  obtain ⟨q1, hq1⟩ : ∃ q, q = decide (x = old) := ⟨_, rfl⟩
  obtain ⟨q2, hq2⟩ : ∃ q, q = decide (y = root) := ⟨_, rfl⟩
  rw [← hq1] at he1 ⊢
  rw [← hq2] at he2 ⊢
  clear hq1 hq2
  cases ok with
  | false =>
    go_enter Tryd.func25, Tryd.ntmps25
    go_wp2_with (first
      | ((with_reducible refine at_load ?_); refine wpList_get rfl 30 (.tmp 5) rfl w.heap.size (old.map bv) 30 (.array 16 5) rfl HK0.out (by kernel_rfl) rfl (isize16 _ HO.out) ?_)
      | (go_at_call 50; refine (HP.out _ HB0.out).mono ?_; rintro e w1 ⟨rfl, hb⟩; have HB1 := hideIt (HB0.out.trans (hb.mono HB0.out.size)); have HK01 := hideIt (HK0.out.kept hb HK0.out.lt); have HK11 := hideIt (HK1.out.kept hb HK1.out.lt); have hs1 := HB1.out.size; clear hb)
      | ((with_reducible refine at_store ?_); refine wpList_put rfl 84 (.tmp 11) (.tmp 23) rfl w1.heap.size (pairC x y false) _ _ rfl rfl (Blk.new w1 84 (pairC zeroD zeroD false)) (isizeP _ _ HX.out HY.out _) (by rw [pairC_len _ _ (rfl : zeroD.length = 16) (rfl : zeroD.length = 16), pairC_len _ _ HX.out HY.out]) (pairC_one _ _ _) ?_; intro w3 ht hb; have HG3 := hideIt hb; have hck3 := pair_rk HX.out HY.out hb; have HK03 := hideIt (ht.blk (HK01.out.alloc (.cells (pairC zeroD zeroD false).toArray 84)) (by have := HK01.out.lt; omega)); have HK13 := hideIt (ht.blk (HK11.out.alloc (.cells (pairC zeroD zeroD false).toArray 84)) (by have := HK11.out.lt; omega)); have HB3 := hideIt (ht.below (HB1.out.alloc HB1.out.size (.cells (pairC zeroD zeroD false).toArray 84)) hs1); clear ht hb))
    go_ret
    exact ⟨rfl, HB3.out⟩
  | true =>
    cases q1 with
    | false =>
      go_enter Tryd.func25, Tryd.ntmps25
      go_wp2_with (first
        | ((with_reducible refine at_load ?_); refine wpList_get rfl 30 (.tmp 5) rfl w.heap.size (old.map bv) 30 (.array 16 5) rfl HK0.out (by kernel_rfl) rfl (isize16 _ HO.out) ?_)
        | (go_at_call 50; refine (HP.out _ HB0.out).mono ?_; rintro e w1 ⟨rfl, hb⟩; have HB1 := hideIt (HB0.out.trans (hb.mono HB0.out.size)); have HK01 := hideIt (HK0.out.kept hb HK0.out.lt); have HK11 := hideIt (HK1.out.kept hb HK1.out.lt); have hs1 := HB1.out.size; clear hb)
        | ((with_reducible refine at_store ?_); refine wpList_put rfl 84 (.tmp 11) (.tmp 23) rfl w1.heap.size (pairC x y true) _ _ rfl rfl (Blk.new w1 84 (pairC zeroD zeroD false)) (isizeP _ _ HX.out HY.out _) (by rw [pairC_len _ _ (rfl : zeroD.length = 16) (rfl : zeroD.length = 16), pairC_len _ _ HX.out HY.out]) (pairC_one _ _ _) ?_; intro w3 ht hb; have HG3 := hideIt hb; have hck3 := pair_rk HX.out HY.out hb; have HK03 := hideIt (ht.blk (HK01.out.alloc (.cells (pairC zeroD zeroD false).toArray 84)) (by have := HK01.out.lt; omega)); have HK13 := hideIt (ht.blk (HK11.out.alloc (.cells (pairC zeroD zeroD false).toArray 84)) (by have := HK11.out.lt; omega)); have HB3 := hideIt (ht.below (HB1.out.alloc HB1.out.size (.cells (pairC zeroD zeroD false).toArray 84)) hs1); clear ht hb)
        | ((with_reducible refine at_load ?_); refine wpList_mid_g (by kernel_rfl) 30 (.tmp 27) rfl w1.heap.size _ (x.map bv) (.array 16 5) rfl (pair_rx HG3.out) (by kernel_rfl) rfl (isize16 _ HX.out) ?_)
        | ((with_reducible refine at_load ?_); refine wpList_get_g (by kernel_rfl) 30 (.tmp 5) rfl w.heap.size (old.map bv) 30 (.array 16 5) rfl HK03.out (by kernel_rfl) rfl (isize16 _ HO.out) ?_))
      go_ret
      exact ⟨rfl, HB3.out⟩
    | true =>
      go_enter Tryd.func25, Tryd.ntmps25
      go_wp2_with (first
        | ((with_reducible refine at_load ?_); refine wpList_get rfl 30 (.tmp 5) rfl w.heap.size (old.map bv) 30 (.array 16 5) rfl HK0.out (by kernel_rfl) rfl (isize16 _ HO.out) ?_)
        | (go_at_call 50; refine (HP.out _ HB0.out).mono ?_; rintro e w1 ⟨rfl, hb⟩; have HB1 := hideIt (HB0.out.trans (hb.mono HB0.out.size)); have HK01 := hideIt (HK0.out.kept hb HK0.out.lt); have HK11 := hideIt (HK1.out.kept hb HK1.out.lt); have hs1 := HB1.out.size; clear hb)
        | ((with_reducible refine at_store ?_); refine wpList_put rfl 84 (.tmp 11) (.tmp 23) rfl w1.heap.size (pairC x y true) _ _ rfl rfl (Blk.new w1 84 (pairC zeroD zeroD false)) (isizeP _ _ HX.out HY.out _) (by rw [pairC_len _ _ (rfl : zeroD.length = 16) (rfl : zeroD.length = 16), pairC_len _ _ HX.out HY.out]) (pairC_one _ _ _) ?_; intro w3 ht hb; have HG3 := hideIt hb; have hck3 := pair_rk HX.out HY.out hb; have HK03 := hideIt (ht.blk (HK01.out.alloc (.cells (pairC zeroD zeroD false).toArray 84)) (by have := HK01.out.lt; omega)); have HK13 := hideIt (ht.blk (HK11.out.alloc (.cells (pairC zeroD zeroD false).toArray 84)) (by have := HK11.out.lt; omega)); have HB3 := hideIt (ht.below (HB1.out.alloc HB1.out.size (.cells (pairC zeroD zeroD false).toArray 84)) hs1); clear ht hb)
        | ((with_reducible refine at_load ?_); refine wpList_mid_g (by kernel_rfl) 30 (.tmp 27) rfl w1.heap.size _ (x.map bv) (.array 16 5) rfl (pair_rx HG3.out) (by kernel_rfl) rfl (isize16 _ HX.out) ?_)
        | ((with_reducible refine at_load ?_); refine wpList_get_g (by kernel_rfl) 30 (.tmp 5) rfl w.heap.size (old.map bv) 30 (.array 16 5) rfl HK03.out (by kernel_rfl) rfl (isize16 _ HO.out) ?_)
        | ((with_reducible refine at_load ?_); refine wpList_mid_g (by kernel_rfl) 30 (.tmp 33) rfl w1.heap.size _ (y.map bv) (.array 16 5) rfl (pair_ry HX.out HG3.out) (by kernel_rfl) rfl (isize16 _ HY.out) ?_)
        | ((with_reducible refine at_load ?_); refine wpList_get_g (by kernel_rfl) 30 (.tmp 6) rfl (w.heap.size + 1) (root.map bv) 30 (.array 16 5) rfl HK13.out (by kernel_rfl) rfl (isize16 _ HR.out) ?_))
      go_ret
      exact ⟨by simp, HB3.out⟩

theorem rvp_any (old root : List UInt8) (ho : old.length = 16) (hr : root.length = 16) (m n : Int) (hn : n ≤ 9223372036854775807) (A : Option Addr) (c : Nat) (ds : List (List UInt8)) (w : World) (hD : Ds w w.heap.size A ds.length ds) (hpc : ds.length ≤ c) (hp9 : ds.length ≤ 1000000000) (hT : Tab w 0) :
    Calls Tryd.prog 25 #[dv old, dv root, .int .i64 m, .int .i64 n, .slice A ds.length c] w fun e w' => e = .returned (.bool (vpB false old root m n ds)) ∧ Below w.heap.size w w' := by
  rw [← vpB_same]
  unfold vpB
  by_cases h : 1 ≤ m ∧ m ≤ n
  · rw [decide_eq_true h, Bool.true_and]
    have hl := pairG_len true old ds ho hD.2.1 ds.length m.toNat n.toNat true (Nat.le_refl _)
    refine rvp_of old root ho hr m n A ds.length c w h.1 h.2 _ _ hl.1 hl.2 _ (fun W hW => ?_)
    have h9 := rpair_any old ho A w.heap.size c ds ds.length m.toNat n.toNat true W (by omega) (by omega) (by omega) (Nat.le_refl _) hpc hp9 (hD.below hW (Nat.le_refl _)) hW.size (hT.keep hW)
    rw [show ((m.toNat : Nat) : Int) = m by omega, show ((n.toNat : Nat) : Int) = n by omega] at h9
    exact h9
  · rw [decide_eq_false h, Bool.false_and]
    exact rvp_out old root m n A _ c w (by omega)

end Go.Proofs.YtefalanfkihcdaaDoor
