/-
  Digests of leaves and nodes, walked: the reference's Short, Text, Of, leaf, node.
  Digests of messages, leaves and nodes, walked: the reference's Of, leaf, node.
-/
import Derived.Test.YtkjnimcapjjfdaaDoorMsg
import Derived.Test.YtkjnimcapjjfdaaDoorRMsg
import Derived.Test.YtkjnimcapjjfdaaDoorRSumW
import Derived.Test.YtkjnimcapjjfdaaDoorOnce
namespace Go.Proofs.YtkjnimcapjjfdaaDoor
open Go.RowKit
set_option linter.unusedVariables false

theorem fill_step (z : List UInt8) (k : Nat) (hk : k < z.length) (m : Nat) : ((z.take k).map bv ++ List.replicate (m + 1) (Value.int .u8 0)).set k (bv z[k]) = (z.take (k + 1)).map bv ++ List.replicate m (Value.int .u8 0) := by
  have hl : ((z.take k).map bv).length = k := by rw [List.length_map, List.length_take]; omega
  rw [List.set_append_right _ _ (by omega), hl, Nat.sub_self, List.replicate_succ, List.set_cons_zero, take_snoc z k hk, List.map_append]
  simp

set_option maxHeartbeats 800000 in
set_option maxRecDepth 100000 in
theorem short_any (A : Option Addr) (B c : Nat) (b : List UInt8) (w : World) (hx : Sl w B A 1 b.length (b.map bv)) (hb : b.length ≤ 1000000000) (hB : B ≤ w.heap.size) (hT : Tab w 0) :
    Calls Tryd.prog 29 #[.slice A b.length c] w fun e w' => e = .returned (dv (cutD b)) ∧ Below w.heap.size w w' := by
  have HX := hideIt hx
  have HT := hideIt hT
  obtain ⟨z, hz⟩ : ∃ z, z = sha b := ⟨_, rfl⟩
  have hzl : z.length = 32 := by rw [hz, sha_len]
  have HDZ : Hid (z.take 16 = cutD b) := by rw [hz]; rfl
  have HS := hideIt (fun (W : World) (h1 : Sl W B A 1 b.length (b.map bv)) (h2 : B ≤ W.heap.size) (h3 : Tab W 0) => refSum_any A B c b W h1 hb h2 h3)
  rw [← hz] at HS
  have HZL := hideIt hzl
  clear hx hT hz hzl
  go_enter Tryd.func29, Tryd.ntmps29
  go_wp2_with (first
    | (go_at_call 12; refine (HS.out _ (HX.out.below ((Below.refl _ _).alloc hB _)) (by simp; omega) (HT.out.keep (below_new w _))).mono ?_; rintro e w1 ⟨rfl, hb1⟩; have HB1 := hideIt hb1; have hsz1 := hb1.size; simp only [World.size_alloc] at hsz1; clear hb1)
    | ((with_reducible refine at_store ?_); refine wpList_put rfl 24 (.tmp 3) (.tmp 7) rfl w1.heap.size (z.map bv) _ _ rfl rfl (Blk.new w1 24 (List.replicate 32 (Value.int .u8 0))) (by rw [List.length_map, HZL.out]; kernel_rfl) (by rw [List.length_map, HZL.out]; rfl) (bv_one _) ?_; intro w2 ht2 hb2; have HT2 := hideIt ht2; have HB2 := hideIt hb2; clear ht2 hb2))
  obtain ⟨g3, hg3⟩ : ∃ g, g = w1.heap.size := ⟨_, rfl⟩
  obtain ⟨g4, hg4⟩ : ∃ g, g = w2.heap.size := ⟨_, rfl⟩
  have hs2 : w2.heap.size = w1.heap.size + 1 := by rw [HT2.out.size]; simp
  have HBE : Hid (Below w.heap.size w w2) := HT2.out.below (((below_new w _).trans (HB1.out.mono (by simp))).trans ((below_new w1 _).mono (by omega))) (by omega)
  have HRS : Hid (Blk w2 w.heap.size 30 (List.replicate 16 (Value.int .u8 0))) := HT2.out.blk (((Blk.new w 30 (List.replicate 16 (Value.int .u8 0))).kept HB1.out (by simp)).alloc _) (by omega)
  have hgw : w.heap.size < g3 := by omega
  have hg34 : g3 < g4 := by omega
  rw [← hg3] at HB2
  rw [← hg3, ← hg4]
  have HG4 := hideIt hg4
  clear HB1 HT2 hsz1 hs2 hg3 hg4 HS
  go_wp2
  go_loopg [5] 16 (fun q s5 wr => ∃ k : Nat, q + k = 16 ∧ s5 = .int .i64 k ∧ Hid (Blk wr g3 24 (z.map bv)) ∧ Hid (Blk wr g4 30 ((z.take k).map bv ++ List.replicate (16 - k) (Value.int .u8 0))) ∧ Hid (Blk wr w.heap.size 30 (List.replicate 16 (Value.int .u8 0))) ∧ Hid (Below w.heap.size w wr))
  case atStart => exact ⟨0, by omega, rfl, HB2.out.alloc _, HG4.out ▸ Blk.new w2 30 (List.replicate 16 (Value.int .u8 0)), HRS.out.alloc _, HBE.out.alloc HBE.out.size _⟩
  case round =>
    obtain ⟨k, hq, rfl, H3, H4, HR, HB⟩ := hrel
    obtain ⟨wo, rfl⟩ : ∃ x, x = wr := ⟨wr, rfl⟩
    by_cases hk : k < 16
    · have hkz : k < z.length := by have := HZL.out; omega
      have hc3 : wo.cell? ⟨g3, k, none⟩ = some (bv z[k]) := by rw [H3.out.cell, List.getElem?_map, List.getElem?_eq_getElem hkz]; rfl
      have hc4 : wo.cell? ⟨g4, k, none⟩ = some (.int .u8 0) := by
        rw [H4.out.cell, List.getElem?_append_right (by rw [List.length_map, List.length_take]; omega)]
        rw [List.getElem?_replicate, if_pos (by rw [List.length_map, List.length_take]; omega)]
      have hf4 : wo.frozen? ⟨g4, k, none⟩ = false := H4.out.free k
      have HN := hideIt (H4.out.store k (bv z[k]))
      rw [show 16 - k = (16 - (k + 1)) + 1 by omega, fill_step z k hkz] at HN
      have HT4 : Hid (Turned g4 wo (wo.setCell ⟨g4, k, none⟩ (bv z[k]))) := ⟨rfl, rfl, rfl, by simp, fun j hj => heap_setCell_other wo ⟨g4, k, none⟩ j _ hj⟩
      generalize z[k] = u at *
      go_wp2
      go_roundg (gk - 1)
      case measure => omega
      case rel => exact ⟨k + 1, by omega, by go_num, HT4.out.blk H3.out (by omega), HN, HT4.out.blk HR.out (by omega), HT4.out.below HB.out (by omega)⟩
    · obtain rfl : k = 16 := by omega
      have H4' : Hid (Blk wo g4 30 ((z.take 16).map bv)) := by have := H4.out; rw [Nat.sub_self, List.replicate_zero, List.append_nil] at this; exact this
      obtain ⟨d, hd⟩ : ∃ d, d = z.take 16 := ⟨_, rfl⟩
      have HDL : Hid (d.length = 16) := by have := HZL.out; rw [hd, List.length_take]; exact (by omega : min 16 z.length = 16)
      have HDE : Hid (d = cutD b) := by rw [hd]; exact HDZ.out
      rw [← hd] at H4'
      clear hd H4
      go_wp2_with (first
        | ((with_reducible refine at_load ?_); refine wpList_get rfl 30 (.tmp 4) rfl g4 (d.map bv) 30 (.array 16 5) rfl H4'.out (by kernel_rfl) rfl (isize16 _ HDL.out) ?_)
        | ((with_reducible refine at_store ?_); refine wpList_put rfl 30 (.tmp 2) (.tmp 18) rfl w.heap.size (d.map bv) _ _ rfl rfl HR.out (by rw [List.length_map, HDL.out]; kernel_rfl) (by rw [List.length_map, HDL.out]; rfl) (bv_one _) ?_; intro w8 ht8 hb8; have HT8 := hideIt ht8; have HB8 := hideIt hb8; clear ht8 hb8))
      exact bodyPost_ret (ret_blk rfl HB8.out (.array 16 5) rfl (by kernel_rfl) rfl (by rw [List.length_map, HDL.out]; kernel_rfl)) rfl ⟨by rw [← HDE.out], HT8.out.below HB.out (Nat.le_refl _)⟩

set_option maxHeartbeats 800000 in
set_option maxRecDepth 100000 in
theorem text_any (d : List UInt8) (hd : d.length = 16) (w : World) :
    Calls Tryd.prog 52 #[dv d] w fun e w' => e = .returned (.string (str d)) ∧ Below w.heap.size w w' := by
  obtain ⟨i0, hi, hz0, hz1, hz2⟩ := info_parts Tryd.info5
  have HD := hideIt hd
  have HSTR : Hid (str d = (⟨d.toArray⟩ : ByteArray)) := rfl
  clear hd
  go_enter Tryd.func52, Tryd.ntmps52
  go_wp2
  go_loopg [3, 4] 16 (fun q s3 s4 wr => ∃ k : Nat, q + k = 16 ∧ s4 = .int .i64 k ∧ Hid (wr.ownsRow (w.heap.size + 1) 5 1 s3 (d.take k).length ((d.take k).map bv)) ∧ Hid (Blk wr w.heap.size 30 (d.map bv)) ∧ Hid (Below w.heap.size w wr) ∧ w.heap.size + 1 ≤ wr.heap.size)
  case atStart => exact ⟨0, by omega, rfl, ⟨rfl, .inl ⟨rfl, rfl⟩⟩, Blk.new w 30 (d.map bv), below_new w _, by simp⟩
  case round =>
    obtain ⟨k, hq, rfl, HO, HB, HBE, hsz⟩ := hrel
    obtain ⟨wo, rfl⟩ : ∃ x, x = wr := ⟨wr, rfl⟩
    by_cases hk : k < 16
    · have hkd : k < d.length := by have := HD.out; omega
      have hc : wo.cell? ⟨w.heap.size, k, none⟩ = some (bv d[k]) := by rw [HB.out.cell, List.getElem?_map, List.getElem?_eq_getElem hkd]; rfl
      have htl : (d.take k).length = k := by rw [List.length_take]; omega
      have HSN : Hid (d.take (k + 1) = d.take k ++ [d[k]]) := take_snoc d k hkd
      obtain ⟨L, hL⟩ : ∃ L, L = d.take k := ⟨_, rfl⟩
      rw [← hL] at HO htl HSN
      have HLL := hideIt htl
      have hl1 : L.length ≤ 16 := by omega
      clear hL htl
      generalize d[k] = u at *
      go_wp2_with ((with_reducible refine at_append ?_); refine wpList_app2 rfl (.tmp 9) (.tmp 13) 22 rfl (w.heap.size + 1) 5 i0 (.int .u8 0) 1 1 Tryd.underlying22 hi hz0 hz1 hz2 rfl (by decide) _ L.length (L.map bv) rfl (HO.out.alloc _) (wo.heap.size + 1) _ 1 1 [bv u] rfl (sl_one wo 5 (bv u)) (ones_one rfl) (by unfold maxLen; omega) (by omega) (by simp; omega) ?_; intro v3 w3 ho3 hg3; have HO3 := own_is (n' := (L ++ [u]).length) (xs' := (L ++ [u]).map bv) ho3 (by rw [List.length_append]; rfl) (by rw [List.map_append]; rfl); have HB3 := hideIt ((HB.out.alloc (.cells #[bv u] 5)).grown hg3 (own_ne (HO.out.alloc (.cells #[bv u] 5)) (HB.out.alloc (.cells #[bv u] 5)) (by decide))); have HBE3 := hideIt ((HBE.out.alloc HBE.out.size (.cells #[bv u] 5)).grown hg3 (by simp; omega) (fun j hj => by have := ((HO.out.alloc (.cells #[bv u] 5)).lt j hj).1; omega)); have hs3 := hg3.size; simp only [World.size_alloc] at hs3; clear ho3 hg3)
      go_roundg (gk - 1)
      case measure => omega
      case rel => exact ⟨k + 1, by omega, by go_num, by rw [HSN.out]; exact HO3, HB3, HBE3, by omega⟩
    · obtain rfl : k = 16 := by omega
      have hown := HO.out
      rw [List.take_of_length_le (by have := HD.out; omega)] at hown
      obtain ⟨A3, c3, rfl, _, _⟩ := own_form hown
      have hcv := conv_bytes (P := Tryd.prog) (T := 22) (S := 9) (e := 5) Tryd.underlying22 Tryd.underlying5 Tryd.underlying9 (c := c3) (Sl.of_own hown)
      clear hown HO
      go_wp2
      go_ret
      exact ⟨rfl, HBE.out⟩

theorem short_own {w : World} {base : Nat} {v : Value} {b : List UInt8} (h : w.ownsRow base 5 1 v b.length (b.map bv)) (hb : b.length ≤ 1000000000) (hT : Tab w 0) :
    Calls Tryd.prog 29 #[v] w fun e w' => e = .returned (dv (cutD b)) ∧ Below w.heap.size w w' := by
  obtain ⟨A, c, rfl, h1, h2⟩ := own_form h
  exact short_any A w.heap.size c b w (Sl.of_own h) hb (Nat.le_refl _) hT

set_option maxHeartbeats 400000 in
set_option maxRecDepth 100000 in
theorem refOf_any (A : Option Addr) (B c : Nat) (t : Int) (ps : List ByteArray) (w : World) (hx : Sl w B A 1 ps.length (ps.map Value.string)) (hps : ps.length ≤ 1000) (hs : ∀ s ∈ ps, s.size ≤ 100000) (hB : B ≤ w.heap.size) (hT : Tab w 0) :
    Calls Tryd.prog 14 #[.int .i64 t, .slice A ps.length c] w fun e w' => e = .returned (dv (cutD (msgS (tagB t) ps))) ∧ Below w.heap.size w w' := by
  have HX := hideIt hx
  have HT := hideIt hT
  have hle := msgS_le (tagB t) ps hs
  have HM := hideIt (fun (W : World) (h : Sl W B A 1 ps.length (ps.map Value.string)) (hW : B ≤ W.heap.size) => input_any A B c t ps W h hps hs hW)
  obtain ⟨b, hb⟩ : ∃ b, b = msgS (tagB t) ps := ⟨_, rfl⟩
  rw [← hb] at hle HM ⊢
  obtain ⟨d, hd⟩ : ∃ d, d = cutD b := ⟨_, rfl⟩
  have HDL : Hid (d.length = 16) := by rw [hd]; exact cutD_len b
  have HC := hideIt (fun (W : World) (base : Nat) (v : Value) (h : W.ownsRow base 5 1 v b.length (b.map bv)) (h2 : Tab W 0) => short_own h (by omega) h2)
  rw [← hd] at HC ⊢
  clear hx hT hs hb hd
  go_enter Tryd.func14, Tryd.ntmps14
  go_wp2_with (first
    | (go_at_call 37; refine (HM.out _ (HX.out.below ((Below.refl _ _).alloc hB _)) (by simp; omega)).mono ?_; rintro e w1 ⟨v1, rfl, hown, hb1⟩; have HO := hideIt hown; have HB1 := hideIt hb1; clear hown hb1)
    | (go_at_call 29; refine (HC.out _ _ _ HO.out ((HT.out.keep (below_new w _)).keep HB1.out)).mono ?_; rintro e w2 ⟨rfl, hb2⟩; have HB2 := hideIt hb2; clear hb2)
    | ((with_reducible refine at_store ?_); refine wpList_put rfl 30 (.tmp 4) (.tmp 8) rfl w.heap.size (d.map bv) _ _ rfl rfl (((Blk.new w 30 (List.replicate 16 (.int .u8 0))).kept HB1.out (by simp)).kept HB2.out (by have := HB1.out.size; simp at this; omega)) (by rw [List.length_map, HDL.out]; kernel_rfl) (by rw [List.length_map, HDL.out]; rfl) (bv_one _) ?_; intro w3 ht3 hb3; have HT3 := hideIt ht3; have HB3 := hideIt hb3; clear ht3 hb3))
  exact bodyPost_ret (ret_blk rfl HB3.out (.array 16 5) rfl (by kernel_rfl) rfl (by rw [List.length_map, HDL.out]; kernel_rfl)) rfl ⟨rfl, HT3.out.below (((below_new w _).trans (HB1.out.mono (by simp))).trans (HB2.out.mono (by have := HB1.out.size; simp at this; omega))) (Nat.le_refl _)⟩

set_option maxHeartbeats 800000 in
set_option maxRecDepth 100000 in
theorem refLeaf_any (d : List UInt8) (hd : d.length = 16) (w : World) (hT : Tab w 0) :
    Calls Tryd.prog 46 #[dv d] w fun e w' => e = .returned (dv (leafD d)) ∧ Below w.heap.size w w' := by
  have HD := hideIt hd
  have HT := hideIt hT
  have hz1 : (w.alloc (.cells (d.map bv).toArray 30)).heap.size = w.heap.size + 1 := by simp
  have HK0 := hideIt ((Blk.new w 30 (d.map bv)).alloc (.cells (List.replicate 16 (Value.int .u8 0)).toArray 30))
  have HK1 : Hid (Blk ((w.alloc (.cells (d.map bv).toArray 30)).alloc (.cells (List.replicate 16 (Value.int .u8 0)).toArray 30)) (w.heap.size + 1) 30 (List.replicate 16 (Value.int .u8 0))) := hz1 ▸ Blk.new (w.alloc (.cells (d.map bv).toArray 30)) 30 (List.replicate 16 (Value.int .u8 0))
  have HB0 := hideIt ((below_new w (.cells (d.map bv).toArray 30)).alloc (by rw [hz1]; omega) (.cells (List.replicate 16 (Value.int .u8 0)).toArray 30))
  have HTX := hideIt (fun (W : World) => text_any d hd W)
  have HOF := hideIt (fun (W : World) (B : Nat) (A : Option Addr) (h : Sl W B A 1 1 [Value.string (str d)]) (hB : B ≤ W.heap.size) (h2 : Tab W 0) => refOf_any A B 1 1 [str d] W h (by simp) (fun s hs => by rw [List.mem_singleton] at hs; subst hs; rw [str_size, hd]; omega) hB h2)
  obtain ⟨r, hr⟩ : ∃ r, r = leafD d := ⟨_, rfl⟩
  have HRL : Hid (r.length = 16) := by rw [hr]; exact cutD_len _
  rw [show cutD (msgS (tagB 1) [str d]) = r by rw [hr]; rfl] at HOF
  rw [← hr]
  clear hd hT hz1 hr
  go_enter Tryd.func46, Tryd.ntmps46
  go_wp2_with (first
    | ((with_reducible refine at_load ?_); refine wpList_get rfl 30 (.tmp 1) rfl w.heap.size (d.map bv) 30 (.array 16 5) rfl HK0.out (by kernel_rfl) rfl (isize16 _ HD.out) ?_)
    | (go_at_call 52; refine (HTX.out _).mono ?_; rintro e w1 ⟨rfl, hb1⟩; have HB1 := hideIt (HB0.out.trans (hb1.mono HB0.out.size)); have HK11 := hideIt (HK1.out.kept hb1 HK1.out.lt); clear hb1)
    | (go_at_call 14; refine (HOF.out _ (w1.heap.size + 1) _ (sl_one w1 9 (.string (str d))) (by simp) (HT.out.keep (HB1.out.alloc HB1.out.size _))).mono ?_; rintro e w2 ⟨rfl, hb2⟩; have HB2 := hideIt ((HB1.out.alloc HB1.out.size _).trans (hb2.mono (by have := HB1.out.size; simp; omega))); have HK12 := hideIt ((HK11.out.alloc _).kept hb2 (HK11.out.alloc _).lt); clear hb2)
    | ((with_reducible refine at_store ?_); refine wpList_put rfl 30 (.tmp 2) (.tmp 6) rfl (w.heap.size + 1) (r.map bv) _ _ rfl rfl HK12.out (by rw [List.length_map, HRL.out]; kernel_rfl) (by rw [List.length_map, HRL.out]; rfl) (bv_one _) ?_; intro w3 ht3 hb3; have HT3 := hideIt ht3; have HB3 := hideIt hb3; clear ht3 hb3))
  exact bodyPost_ret (ret_blk rfl HB3.out (.array 16 5) rfl (by kernel_rfl) rfl (by rw [List.length_map, HRL.out]; kernel_rfl)) rfl ⟨rfl, HT3.out.below HB2.out (by omega)⟩

set_option maxHeartbeats 1000000 in
set_option maxRecDepth 100000 in
theorem refNode_any (x y : List UInt8) (hx : x.length = 16) (hy : y.length = 16) (w : World) (hT : Tab w 0) :
    Calls Tryd.prog 47 #[dv x, dv y] w fun e w' => e = .returned (dv (nodeD x y)) ∧ Below w.heap.size w w' := by
  have HX := hideIt hx
  have HY := hideIt hy
  have HT := hideIt hT
  have hz1 : (w.alloc (.cells (x.map bv).toArray 30)).heap.size = w.heap.size + 1 := by simp
  have hz2 : ((w.alloc (.cells (x.map bv).toArray 30)).alloc (.cells (y.map bv).toArray 30)).heap.size = w.heap.size + 1 + 1 := by simp
  obtain ⟨w0, hw0⟩ : ∃ W, W = ((w.alloc (.cells (x.map bv).toArray 30)).alloc (.cells (y.map bv).toArray 30)).alloc (.cells (List.replicate 16 (Value.int .u8 0)).toArray 30) := ⟨_, rfl⟩
  have HK0 : Hid (Blk w0 w.heap.size 30 (x.map bv)) := by rw [hw0]; exact ((Blk.new w 30 (x.map bv)).alloc _).alloc _
  have HK1 : Hid (Blk w0 (w.heap.size + 1) 30 (y.map bv)) := by rw [hw0]; exact (hz1 ▸ Blk.new (w.alloc (.cells (x.map bv).toArray 30)) 30 (y.map bv) : Blk _ (w.heap.size + 1) _ _).alloc _
  have HK2 : Hid (Blk w0 (w.heap.size + 1 + 1) 30 (List.replicate 16 (Value.int .u8 0))) := by rw [hw0]; exact hz2 ▸ Blk.new ((w.alloc (.cells (x.map bv).toArray 30)).alloc (.cells (y.map bv).toArray 30)) 30 (List.replicate 16 (Value.int .u8 0))
  have HB0 : Hid (Below w.heap.size w w0) := by rw [hw0]; exact ((below_new w _).alloc (by rw [hz1]; omega) _).alloc (by rw [hz2]; omega) _
  have HW0 := hideIt hw0
  have HTX := hideIt (fun (W : World) => text_any x hx W)
  have HTY := hideIt (fun (W : World) => text_any y hy W)
  have HOF := hideIt (fun (W : World) (B : Nat) (A : Option Addr) (h : Sl W B A 1 2 [Value.string (str x), .string (str y)]) (hB : B ≤ W.heap.size) (h2 : Tab W 0) => refOf_any A B 2 2 [str x, str y] W h (by simp) (fun s hs => by
    simp only [List.mem_cons, List.mem_nil_iff, or_false] at hs
    rcases hs with rfl | rfl
    · rw [str_size, hx]; omega
    · rw [str_size, hy]; omega) hB h2)
  obtain ⟨r, hr⟩ : ∃ r, r = nodeD x y := ⟨_, rfl⟩
  have HRL : Hid (r.length = 16) := by rw [hr]; exact cutD_len _
  rw [show cutD (msgS (tagB 2) [str x, str y]) = r by rw [hr]; rfl] at HOF
  rw [← hr]
  clear hx hy hT hz1 hz2 hr hw0
  go_enter Tryd.func47, Tryd.ntmps47
  go_wp2_with fail
  rw [show ((w.alloc (.cells (x.map bv).toArray 30)).alloc (.cells (y.map bv).toArray 30)).alloc (.cells #[Value.int .u8 0, Value.int .u8 0, Value.int .u8 0, Value.int .u8 0, Value.int .u8 0, Value.int .u8 0, Value.int .u8 0, Value.int .u8 0, Value.int .u8 0, Value.int .u8 0, Value.int .u8 0, Value.int .u8 0, Value.int .u8 0, Value.int .u8 0, Value.int .u8 0, Value.int .u8 0] 30) = w0 from HW0.out.symm]
  refine once_begin (fun W' => Blk W' (w.heap.size + 1) 30 (y.map bv)) 3 (by kernel_rfl) ?_
  refine wpAnyU_take 2 (.agg (y.map bv).toArray) rfl (by kernel_rfl) (by kernel_rfl) (by kernel_rfl) (by kernel_rfl) (by kernel_rfl) (fun _ _ _ h => h) (by kernel_rfl) (fun W' hW' => exec_load_blk rfl rfl hW' (.array 16 5) (by kernel_rfl) rfl (isize16 _ HY.out)) HK1.out ?_
  refine wpAnyU_one 0 (by kernel_rfl) rfl (fun K hK => ?_)
  refine wpList_get rfl 30 (.tmp 2) rfl w.heap.size (x.map bv) 30 (.array 16 5) rfl (show Blk w0.drew _ _ _ from HK0.out) (by kernel_rfl) rfl (isize16 _ HX.out) ?_
  refine hK _ _ (fun _ => HK1.out) ?_
  clear hK K
  refine wpAnyU_one 1 (by kernel_rfl) rfl (fun K hK => ?_)
  go_wp2_with (go_at_call 52; refine (HTX.out _).mono ?_; rintro e w1 ⟨rfl, hb1⟩; have HB01 : Hid (Below w0.heap.size w0 w1) := ((Below.refl w0.heap.size w0).drew).trans hb1; clear hb1)
  refine hK _ _ (fun _ => HK1.out.kept HB01.out HK1.out.lt) ?_
  clear hK K
  refine once_tail (by kernel_rfl) (by kernel_rfl) (by kernel_rfl) ?_
  simp only [List.drop_succ_cons, List.drop_zero]
  go_wp2_with (first
    | (go_at_call 52; refine (HTY.out _).mono ?_; rintro e w2 ⟨rfl, hb2⟩; have HB02 := hideIt (HB01.out.trans (hb2.mono HB01.out.size)); clear hb2)
    | (go_at_call 14; refine (HOF.out _ (w2.heap.size + 1) _ (sl_two w2 9 (.string (str x)) (.string (str y))) (by simp) (HT.out.keep ((HB0.out.trans (HB02.out.mono HB0.out.size)).alloc (Nat.le_trans HB0.out.size HB02.out.size) _))).mono ?_; rintro e w3 ⟨rfl, hb3⟩; have HB03 := hideIt ((HB02.out.alloc HB02.out.size _).trans (hb3.mono (by have := HB02.out.size; simp; omega))); clear hb3)
    | ((with_reducible refine at_store ?_); refine wpList_put rfl 30 (.tmp 4) (.tmp 10) rfl (w.heap.size + 1 + 1) (r.map bv) _ _ rfl rfl (HK2.out.kept HB03.out HK2.out.lt) (by rw [List.length_map, HRL.out]; kernel_rfl) (by rw [List.length_map, HRL.out]; rfl) (bv_one _) ?_; intro w4 ht4 hb4; have HT4 := hideIt ht4; have HB4 := hideIt hb4; clear ht4 hb4))
  exact bodyPost_ret (ret_blk rfl HB4.out (.array 16 5) rfl (by kernel_rfl) rfl (by rw [List.length_map, HRL.out]; kernel_rfl)) rfl ⟨rfl, HT4.out.below (HB0.out.trans (HB03.out.mono HB0.out.size)) (by omega)⟩

end Go.Proofs.YtkjnimcapjjfdaaDoor
