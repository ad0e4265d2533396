/-
  Digests of messages, leaves and nodes, walked: the reference's Of, leaf, node.
-/
import Derived.Test.YtefalanfkihcdaaDoorRNode
namespace Go.Proofs.YtefalanfkihcdaaDoor
open Go.RowKit
set_option linter.unusedVariables false

theorem short_own {w : World} {base : Nat} {v : Value} {b : List UInt8} (h : w.ownsRow base 5 1 v b.length (b.map bv)) (hb : b.length ≤ 1000000000) (hT : Tab w 0) :
    Calls Tryd.prog 29 #[v] w fun e w' => e = .returned (dv (cutD b)) ∧ Below w.heap.size w w' := by
  obtain ⟨A, c, rfl, h1, h2⟩ := own_form h
  exact short_any A w.heap.size c b w (Sl.of_own h) hb (Nat.le_refl _) hT

set_option maxHeartbeats 400000 in
set_option maxRecDepth 100000 in
theorem refOf_any (A : Option Addr) (B c : Nat) (t : Int) (ps : List ByteArray) (w : World) (hx : Sl w B A 1 ps.length (ps.map Value.string)) (hps : ps.length ≤ 1000) (hs : ∀ s ∈ ps, s.size ≤ 100000) (hB : B ≤ w.heap.size) (hT : Tab w 0) :
    Calls Tryd.prog 14 #[.int .i64 t, .slice A ps.length c] w fun e w' => e = .returned (dv (cutD (msgS (tagB t) ps))) ∧ Below w.heap.size w w' := by
  have HX := hideIt hx
  have HT := hideIt hT
  have hle := msgS_le (tagB t) ps hs
  have HM := hideIt (fun (W : World) (h : Sl W B A 1 ps.length (ps.map Value.string)) (hW : B ≤ W.heap.size) => input_any A B c t ps W h hps hs hW)
  obtain ⟨b, hb⟩ : ∃ b, b = msgS (tagB t) ps := ⟨_, rfl⟩
  rw [← hb] at hle HM ⊢
  obtain ⟨d, hd⟩ : ∃ d, d = cutD b := ⟨_, rfl⟩
  have HDL : Hid (d.length = 16) := by rw [hd]; exact cutD_len b
  have HC := hideIt (fun (W : World) (base : Nat) (v : Value) (h : W.ownsRow base 5 1 v b.length (b.map bv)) (h2 : Tab W 0) => short_own h (by omega) h2)
  rw [← hd] at HC ⊢
  clear hx hT hs hb hd
  go_enter Tryd.func14, Tryd.ntmps14
  go_wp2_with (first
    | (go_at_call 37; refine (HM.out _ (HX.out.below ((Below.refl _ _).alloc hB _)) (by simp; omega)).mono ?_; rintro e w1 ⟨v1, rfl, hown, hb1⟩; have HO := hideIt hown; have HB1 := hideIt hb1; clear hown hb1)
    | (go_at_call 29; refine (HC.out _ _ _ HO.out ((HT.out.keep (below_new w _)).keep HB1.out)).mono ?_; rintro e w2 ⟨rfl, hb2⟩; have HB2 := hideIt hb2; clear hb2)
    | ((with_reducible refine at_store ?_); refine wpList_put rfl 30 (.tmp 4) (.tmp 8) rfl w.heap.size (d.map bv) _ _ rfl rfl (((Blk.new w 30 (List.replicate 16 (.int .u8 0))).kept HB1.out (by simp)).kept HB2.out (by have := HB1.out.size; simp at this; omega)) (by rw [List.length_map, HDL.out]; kernel_rfl) (by rw [List.length_map, HDL.out]; rfl) (bv_one _) ?_; intro w3 ht3 hb3; have HT3 := hideIt ht3; have HB3 := hideIt hb3; clear ht3 hb3))
  exact bodyPost_ret (ret_blk rfl HB3.out (.array 16 5) rfl (by kernel_rfl) rfl (by rw [List.length_map, HDL.out]; kernel_rfl)) rfl ⟨rfl, HT3.out.below (((below_new w _).trans (HB1.out.mono (by simp))).trans (HB2.out.mono (by have := HB1.out.size; simp at this; omega))) (Nat.le_refl _)⟩

set_option maxHeartbeats 800000 in
set_option maxRecDepth 100000 in
theorem refLeaf_any (d : List UInt8) (hd : d.length = 16) (w : World) (hT : Tab w 0) :
    Calls Tryd.prog 46 #[dv d] w fun e w' => e = .returned (dv (leafD d)) ∧ Below w.heap.size w w' := by
  have HD := hideIt hd
  have HT := hideIt hT
  have hz1 : (w.alloc (.cells (d.map bv).toArray 30)).heap.size = w.heap.size + 1 := by simp
  have HK0 := hideIt ((Blk.new w 30 (d.map bv)).alloc (.cells (List.replicate 16 (Value.int .u8 0)).toArray 30))
  have HK1 : Hid (Blk ((w.alloc (.cells (d.map bv).toArray 30)).alloc (.cells (List.replicate 16 (Value.int .u8 0)).toArray 30)) (w.heap.size + 1) 30 (List.replicate 16 (Value.int .u8 0))) := hz1 ▸ Blk.new (w.alloc (.cells (d.map bv).toArray 30)) 30 (List.replicate 16 (Value.int .u8 0))
  have HB0 := hideIt ((below_new w (.cells (d.map bv).toArray 30)).alloc (by rw [hz1]; omega) (.cells (List.replicate 16 (Value.int .u8 0)).toArray 30))
  have HTX := hideIt (fun (W : World) => text_any d hd W)
  have HOF := hideIt (fun (W : World) (B : Nat) (A : Option Addr) (h : Sl W B A 1 1 [Value.string (str d)]) (hB : B ≤ W.heap.size) (h2 : Tab W 0) => refOf_any A B 1 1 [str d] W h (by simp) (fun s hs => by rw [List.mem_singleton] at hs; subst hs; rw [str_size, hd]; omega) hB h2)
  obtain ⟨r, hr⟩ : ∃ r, r = leafD d := ⟨_, rfl⟩
  have HRL : Hid (r.length = 16) := by rw [hr]; exact cutD_len _
  rw [show cutD (msgS (tagB 1) [str d]) = r by rw [hr]; rfl] at HOF
  rw [← hr]
  clear hd hT hz1 hr
  go_enter Tryd.func46, Tryd.ntmps46
  go_wp2_with (first
    | ((with_reducible refine at_load ?_); refine wpList_get rfl 30 (.tmp 1) rfl w.heap.size (d.map bv) 30 (.array 16 5) rfl HK0.out (by kernel_rfl) rfl (isize16 _ HD.out) ?_)
    | (go_at_call 52; refine (HTX.out _).mono ?_; rintro e w1 ⟨rfl, hb1⟩; have HB1 := hideIt (HB0.out.trans (hb1.mono HB0.out.size)); have HK11 := hideIt (HK1.out.kept hb1 HK1.out.lt); clear hb1)
    | (go_at_call 14; refine (HOF.out _ (w1.heap.size + 1) _ (sl_one w1 9 (.string (str d))) (by simp) (HT.out.keep (HB1.out.alloc HB1.out.size _))).mono ?_; rintro e w2 ⟨rfl, hb2⟩; have HB2 := hideIt ((HB1.out.alloc HB1.out.size _).trans (hb2.mono (by have := HB1.out.size; simp; omega))); have HK12 := hideIt ((HK11.out.alloc _).kept hb2 (HK11.out.alloc _).lt); clear hb2)
    | ((with_reducible refine at_store ?_); refine wpList_put rfl 30 (.tmp 2) (.tmp 6) rfl (w.heap.size + 1) (r.map bv) _ _ rfl rfl HK12.out (by rw [List.length_map, HRL.out]; kernel_rfl) (by rw [List.length_map, HRL.out]; rfl) (bv_one _) ?_; intro w3 ht3 hb3; have HT3 := hideIt ht3; have HB3 := hideIt hb3; clear ht3 hb3))
  exact bodyPost_ret (ret_blk rfl HB3.out (.array 16 5) rfl (by kernel_rfl) rfl (by rw [List.length_map, HRL.out]; kernel_rfl)) rfl ⟨rfl, HT3.out.below HB2.out (by omega)⟩

set_option maxHeartbeats 1000000 in
set_option maxRecDepth 100000 in
theorem refNode_any (x y : List UInt8) (hx : x.length = 16) (hy : y.length = 16) (w : World) (hT : Tab w 0) :
    Calls Tryd.prog 47 #[dv x, dv y] w fun e w' => e = .returned (dv (nodeD x y)) ∧ Below w.heap.size w w' := by
  have HX := hideIt hx
  have HY := hideIt hy
  have HT := hideIt hT
  have hz1 : (w.alloc (.cells (x.map bv).toArray 30)).heap.size = w.heap.size + 1 := by simp
  have hz2 : ((w.alloc (.cells (x.map bv).toArray 30)).alloc (.cells (y.map bv).toArray 30)).heap.size = w.heap.size + 1 + 1 := by simp
  obtain ⟨w0, hw0⟩ : ∃ W, W = ((w.alloc (.cells (x.map bv).toArray 30)).alloc (.cells (y.map bv).toArray 30)).alloc (.cells (List.replicate 16 (Value.int .u8 0)).toArray 30) := ⟨_, rfl⟩
  have HK0 : Hid (Blk w0 w.heap.size 30 (x.map bv)) := by rw [hw0]; exact ((Blk.new w 30 (x.map bv)).alloc _).alloc _
  have HK1 : Hid (Blk w0 (w.heap.size + 1) 30 (y.map bv)) := by rw [hw0]; exact (hz1 ▸ Blk.new (w.alloc (.cells (x.map bv).toArray 30)) 30 (y.map bv) : Blk _ (w.heap.size + 1) _ _).alloc _
  have HK2 : Hid (Blk w0 (w.heap.size + 1 + 1) 30 (List.replicate 16 (Value.int .u8 0))) := by rw [hw0]; exact hz2 ▸ Blk.new ((w.alloc (.cells (x.map bv).toArray 30)).alloc (.cells (y.map bv).toArray 30)) 30 (List.replicate 16 (Value.int .u8 0))
  have HB0 : Hid (Below w.heap.size w w0) := by rw [hw0]; exact ((below_new w _).alloc (by rw [hz1]; omega) _).alloc (by rw [hz2]; omega) _
  have HW0 := hideIt hw0
  have HTX := hideIt (fun (W : World) => text_any x hx W)
  have HTY := hideIt (fun (W : World) => text_any y hy W)
  have HOF := hideIt (fun (W : World) (B : Nat) (A : Option Addr) (h : Sl W B A 1 2 [Value.string (str x), .string (str y)]) (hB : B ≤ W.heap.size) (h2 : Tab W 0) => refOf_any A B 2 2 [str x, str y] W h (by simp) (fun s hs => by
    simp only [List.mem_cons, List.mem_nil_iff, or_false] at hs
    rcases hs with rfl | rfl
    · rw [str_size, hx]; omega
    · rw [str_size, hy]; omega) hB h2)
  obtain ⟨r, hr⟩ : ∃ r, r = nodeD x y := ⟨_, rfl⟩
  have HRL : Hid (r.length = 16) := by rw [hr]; exact cutD_len _
  rw [show cutD (msgS (tagB 2) [str x, str y]) = r by rw [hr]; rfl] at HOF
  rw [← hr]
  clear hx hy hT hz1 hz2 hr hw0
  go_enter Tryd.func47, Tryd.ntmps47
  go_wp2_with fail
  rw [show ((w.alloc (.cells (x.map bv).toArray 30)).alloc (.cells (y.map bv).toArray 30)).alloc (.cells #[Value.int .u8 0, Value.int .u8 0, Value.int .u8 0, Value.int .u8 0, Value.int .u8 0, Value.int .u8 0, Value.int .u8 0, Value.int .u8 0, Value.int .u8 0, Value.int .u8 0, Value.int .u8 0, Value.int .u8 0, Value.int .u8 0, Value.int .u8 0, Value.int .u8 0, Value.int .u8 0] 30) = w0 from HW0.out.symm]
  refine once_begin (fun W' => Blk W' (w.heap.size + 1) 30 (y.map bv)) 3 (by kernel_rfl) ?_
  refine wpAnyU_take 2 (.agg (y.map bv).toArray) rfl (by kernel_rfl) (by kernel_rfl) (by kernel_rfl) (by kernel_rfl) (by kernel_rfl) (fun _ _ _ h => h) (by kernel_rfl) (fun W' hW' => exec_load_blk rfl rfl hW' (.array 16 5) (by kernel_rfl) rfl (isize16 _ HY.out)) HK1.out ?_
  refine wpAnyU_one 0 (by kernel_rfl) rfl (fun K hK => ?_)
  refine wpList_get rfl 30 (.tmp 2) rfl w.heap.size (x.map bv) 30 (.array 16 5) rfl (show Blk w0.drew _ _ _ from HK0.out) (by kernel_rfl) rfl (isize16 _ HX.out) ?_
  refine hK _ _ (fun _ => HK1.out) ?_
  clear hK K
  refine wpAnyU_one 1 (by kernel_rfl) rfl (fun K hK => ?_)
  go_wp2_with (go_at_call 52; refine (HTX.out _).mono ?_; rintro e w1 ⟨rfl, hb1⟩; have HB01 : Hid (Below w0.heap.size w0 w1) := ((Below.refl w0.heap.size w0).drew).trans hb1; clear hb1)
  refine hK _ _ (fun _ => HK1.out.kept HB01.out HK1.out.lt) ?_
  clear hK K
  refine once_tail (by kernel_rfl) (by kernel_rfl) (by kernel_rfl) ?_
  simp only [List.drop_succ_cons, List.drop_zero]
  go_wp2_with (first
    | (go_at_call 52; refine (HTY.out _).mono ?_; rintro e w2 ⟨rfl, hb2⟩; have HB02 := hideIt (HB01.out.trans (hb2.mono HB01.out.size)); clear hb2)
    | (go_at_call 14; refine (HOF.out _ (w2.heap.size + 1) _ (sl_two w2 9 (.string (str x)) (.string (str y))) (by simp) (HT.out.keep ((HB0.out.trans (HB02.out.mono HB0.out.size)).alloc (Nat.le_trans HB0.out.size HB02.out.size) _))).mono ?_; rintro e w3 ⟨rfl, hb3⟩; have HB03 := hideIt ((HB02.out.alloc HB02.out.size _).trans (hb3.mono (by have := HB02.out.size; simp; omega))); clear hb3)
    | ((with_reducible refine at_store ?_); refine wpList_put rfl 30 (.tmp 4) (.tmp 10) rfl (w.heap.size + 1 + 1) (r.map bv) _ _ rfl rfl (HK2.out.kept HB03.out HK2.out.lt) (by rw [List.length_map, HRL.out]; kernel_rfl) (by rw [List.length_map, HRL.out]; rfl) (bv_one _) ?_; intro w4 ht4 hb4; have HT4 := hideIt ht4; have HB4 := hideIt hb4; clear ht4 hb4))
  exact bodyPost_ret (ret_blk rfl HB4.out (.array 16 5) rfl (by kernel_rfl) rfl (by rw [List.length_map, HRL.out]; kernel_rfl)) rfl ⟨rfl, HT4.out.below (HB0.out.trans (HB03.out.mono HB0.out.size)) (by omega)⟩

end Go.Proofs.YtefalanfkihcdaaDoor
