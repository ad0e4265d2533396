/-
  Digests of leaves and nodes, walked: the reference's Short, Text, Of, leaf, node.
-/
import Derived.Test.YtefalanfkihcdaaDoorNode
import Derived.Test.YtefalanfkihcdaaDoorRMsg
import Derived.Test.YtefalanfkihcdaaDoorRSumW
import Derived.Test.YtefalanfkihcdaaDoorOnce2
import Derived.Test.YtefalanfkihcdaaDoorGrow
namespace Go.Proofs.YtefalanfkihcdaaDoor
open Go.RowKit
set_option linter.unusedVariables false

theorem fill_step (z : List UInt8) (k : Nat) (hk : k < z.length) (m : Nat) : ((z.take k).map bv ++ List.replicate (m + 1) (Value.int .u8 0)).set k (bv z[k]) = (z.take (k + 1)).map bv ++ List.replicate m (Value.int .u8 0) := by
  have hl : ((z.take k).map bv).length = k := by rw [List.length_map, List.length_take]; omega
  rw [List.set_append_right _ _ (by omega), hl, Nat.sub_self, List.replicate_succ, List.set_cons_zero, take_snoc z k hk, List.map_append]
  simp

set_option maxHeartbeats 800000 in
set_option maxRecDepth 100000 in
theorem short_any (A : Option Addr) (B c : Nat) (b : List UInt8) (w : World) (hx : Sl w B A 1 b.length (b.map bv)) (hb : b.length ≤ 1000000000) (hB : B ≤ w.heap.size) (hT : Tab w 0) :
    Calls Tryd.prog 29 #[.slice A b.length c] w fun e w' => e = .returned (dv (cutD b)) ∧ Below w.heap.size w w' := by
  have HX := hideIt hx
  have HT := hideIt hT
  obtain ⟨z, hz⟩ : ∃ z, z = sha b := ⟨_, rfl⟩
  have hzl : z.length = 32 := by rw [hz, sha_len]
  have HDZ : Hid (z.take 16 = cutD b) := by rw [hz]; rfl
  have HS := hideIt (fun (W : World) (h1 : Sl W B A 1 b.length (b.map bv)) (h2 : B ≤ W.heap.size) (h3 : Tab W 0) => refSum_any A B c b W h1 hb h2 h3)
  rw [← hz] at HS
  have HZL := hideIt hzl
  clear hx hT hz hzl
  go_enter Tryd.func29, Tryd.ntmps29
  go_wp2_with (first
    | (go_at_call 12; refine (HS.out _ (HX.out.below ((Below.refl _ _).alloc hB _)) (by simp; omega) (HT.out.keep (below_new w _))).mono ?_; rintro e w1 ⟨rfl, hb1⟩; have HB1 := hideIt hb1; have hsz1 := hb1.size; simp only [World.size_alloc] at hsz1; clear hb1)
    | ((with_reducible refine at_store ?_); refine wpList_put rfl 24 (.tmp 3) (.tmp 7) rfl w1.heap.size (z.map bv) _ _ rfl rfl (Blk.new w1 24 (List.replicate 32 (Value.int .u8 0))) (by rw [List.length_map, HZL.out]; kernel_rfl) (by rw [List.length_map, HZL.out]; rfl) (bv_one _) ?_; intro w2 ht2 hb2; have HT2 := hideIt ht2; have HB2 := hideIt hb2; clear ht2 hb2))
  obtain ⟨g3, hg3⟩ : ∃ g, g = w1.heap.size := ⟨_, rfl⟩
  obtain ⟨g4, hg4⟩ : ∃ g, g = w2.heap.size := ⟨_, rfl⟩
  have hs2 : w2.heap.size = w1.heap.size + 1 := by rw [HT2.out.size]; simp
  have HBE : Hid (Below w.heap.size w w2) := HT2.out.below (((below_new w _).trans (HB1.out.mono (by simp))).trans ((below_new w1 _).mono (by omega))) (by omega)
  have HRS : Hid (Blk w2 w.heap.size 30 (List.replicate 16 (Value.int .u8 0))) := HT2.out.blk (((Blk.new w 30 (List.replicate 16 (Value.int .u8 0))).kept HB1.out (by simp)).alloc _) (by omega)
  have hgw : w.heap.size < g3 := by omega
  have hg34 : g3 < g4 := by omega
  rw [← hg3] at HB2
  rw [← hg3, ← hg4]
  have HG4 := hideIt hg4
  clear HB1 HT2 hsz1 hs2 hg3 hg4 HS
  go_wp2
  go_loopg [5] 16 (fun q s5 wr => ∃ k : Nat, q + k = 16 ∧ s5 = .int .i64 k ∧ Hid (Blk wr g3 24 (z.map bv)) ∧ Hid (Blk wr g4 30 ((z.take k).map bv ++ List.replicate (16 - k) (Value.int .u8 0))) ∧ Hid (Blk wr w.heap.size 30 (List.replicate 16 (Value.int .u8 0))) ∧ Hid (Below w.heap.size w wr))
  case atStart => exact ⟨0, by omega, rfl, HB2.out.alloc _, HG4.out ▸ Blk.new w2 30 (List.replicate 16 (Value.int .u8 0)), HRS.out.alloc _, HBE.out.alloc HBE.out.size _⟩
  case round =>
    obtain ⟨k, hq, rfl, H3, H4, HR, HB⟩ := hrel
    obtain ⟨wo, rfl⟩ : ∃ x, x = wr := ⟨wr, rfl⟩
    by_cases hk : k < 16
    · have hkz : k < z.length := by have := HZL.out; omega
      have hc3 : wo.cell? ⟨g3, k, none⟩ = some (bv z[k]) := by rw [H3.out.cell, List.getElem?_map, List.getElem?_eq_getElem hkz]; rfl
      have hc4 : wo.cell? ⟨g4, k, none⟩ = some (.int .u8 0) := by
        rw [H4.out.cell, List.getElem?_append_right (by rw [List.length_map, List.length_take]; omega)]
        rw [List.getElem?_replicate, if_pos (by rw [List.length_map, List.length_take]; omega)]
      have hf4 : wo.frozen? ⟨g4, k, none⟩ = false := H4.out.free k
      have HN := hideIt (H4.out.store k (bv z[k]))
      rw [show 16 - k = (16 - (k + 1)) + 1 by omega, fill_step z k hkz] at HN
      have HT4 : Hid (Turned g4 wo (wo.setCell ⟨g4, k, none⟩ (bv z[k]))) := ⟨rfl, rfl, rfl, by simp, fun j hj => heap_setCell_other wo ⟨g4, k, none⟩ j _ hj⟩
      generalize z[k] = u at *
      go_wp2
      go_roundg (gk - 1)
      case measure => omega
      case rel => exact ⟨k + 1, by omega, by go_num, HT4.out.blk H3.out (by omega), HN, HT4.out.blk HR.out (by omega), HT4.out.below HB.out (by omega)⟩
    · obtain rfl : k = 16 := by omega
      have H4' : Hid (Blk wo g4 30 ((z.take 16).map bv)) := by have := H4.out; rw [Nat.sub_self, List.replicate_zero, List.append_nil] at this; exact this
      obtain ⟨d, hd⟩ : ∃ d, d = z.take 16 := ⟨_, rfl⟩
      have HDL : Hid (d.length = 16) := by have := HZL.out; rw [hd, List.length_take]; exact (by omega : min 16 z.length = 16)
      have HDE : Hid (d = cutD b) := by rw [hd]; exact HDZ.out
      rw [← hd] at H4'
      clear hd H4
      go_wp2_with (first
        | ((with_reducible refine at_load ?_); refine wpList_get rfl 30 (.tmp 4) rfl g4 (d.map bv) 30 (.array 16 5) rfl H4'.out (by kernel_rfl) rfl (isize16 _ HDL.out) ?_)
        | ((with_reducible refine at_store ?_); refine wpList_put rfl 30 (.tmp 2) (.tmp 18) rfl w.heap.size (d.map bv) _ _ rfl rfl HR.out (by rw [List.length_map, HDL.out]; kernel_rfl) (by rw [List.length_map, HDL.out]; rfl) (bv_one _) ?_; intro w8 ht8 hb8; have HT8 := hideIt ht8; have HB8 := hideIt hb8; clear ht8 hb8))
      exact bodyPost_ret (ret_blk rfl HB8.out (.array 16 5) rfl (by kernel_rfl) rfl (by rw [List.length_map, HDL.out]; kernel_rfl)) rfl ⟨by rw [← HDE.out], HT8.out.below HB.out (Nat.le_refl _)⟩

set_option maxHeartbeats 800000 in
set_option maxRecDepth 100000 in
theorem text_any (d : List UInt8) (hd : d.length = 16) (w : World) :
    Calls Tryd.prog 52 #[dv d] w fun e w' => e = .returned (.string (str d)) ∧ Below w.heap.size w w' := by
  obtain ⟨i0, hi, hz0, hz1, hz2⟩ := info_parts Tryd.info5
  have HD := hideIt hd
  have HSTR : Hid (str d = (⟨d.toArray⟩ : ByteArray)) := rfl
  clear hd
  go_enter Tryd.func52, Tryd.ntmps52
  go_wp2
  go_loopg [3, 4] 16 (fun q s3 s4 wr => ∃ k : Nat, q + k = 16 ∧ s4 = .int .i64 k ∧ Hid (wr.ownsRow (w.heap.size + 1) 5 1 s3 (d.take k).length ((d.take k).map bv)) ∧ Hid (Blk wr w.heap.size 30 (d.map bv)) ∧ Hid (Below w.heap.size w wr) ∧ w.heap.size + 1 ≤ wr.heap.size)
  case atStart => exact ⟨0, by omega, rfl, ⟨rfl, .inl ⟨rfl, rfl⟩⟩, Blk.new w 30 (d.map bv), below_new w _, by simp⟩
  case round =>
    obtain ⟨k, hq, rfl, HO, HB, HBE, hsz⟩ := hrel
    obtain ⟨wo, rfl⟩ : ∃ x, x = wr := ⟨wr, rfl⟩
    by_cases hk : k < 16
    · have hkd : k < d.length := by have := HD.out; omega
      have hc : wo.cell? ⟨w.heap.size, k, none⟩ = some (bv d[k]) := by rw [HB.out.cell, List.getElem?_map, List.getElem?_eq_getElem hkd]; rfl
      have htl : (d.take k).length = k := by rw [List.length_take]; omega
      have HSN : Hid (d.take (k + 1) = d.take k ++ [d[k]]) := take_snoc d k hkd
      obtain ⟨L, hL⟩ : ∃ L, L = d.take k := ⟨_, rfl⟩
      rw [← hL] at HO htl HSN
      have HLL := hideIt htl
      have hl1 : L.length ≤ 16 := by omega
      clear hL htl
      generalize d[k] = u at *
      go_wp2_with ((with_reducible refine at_append ?_); refine wpList_app2 rfl (.tmp 9) (.tmp 13) 22 rfl (w.heap.size + 1) 5 i0 (.int .u8 0) 1 1 Tryd.underlying22 hi hz0 hz1 hz2 rfl (by decide) _ L.length (L.map bv) rfl (HO.out.alloc _) (wo.heap.size + 1) _ 1 1 [bv u] rfl (sl_one wo 5 (bv u)) (ones_one rfl) (by unfold maxLen; omega) (by omega) (by simp; omega) ?_; intro v3 w3 ho3 hg3; have HO3 := own_is (n' := (L ++ [u]).length) (xs' := (L ++ [u]).map bv) ho3 (by rw [List.length_append]; rfl) (by rw [List.map_append]; rfl); have HB3 := hideIt ((HB.out.alloc (.cells #[bv u] 5)).grown hg3 (own_ne (HO.out.alloc (.cells #[bv u] 5)) (HB.out.alloc (.cells #[bv u] 5)) (by decide))); have HBE3 := hideIt ((HBE.out.alloc HBE.out.size (.cells #[bv u] 5)).grown hg3 (by simp; omega) (fun j hj => by have := ((HO.out.alloc (.cells #[bv u] 5)).lt j hj).1; omega)); have hs3 := hg3.size; simp only [World.size_alloc] at hs3; clear ho3 hg3)
      go_roundg (gk - 1)
      case measure => omega
      case rel => exact ⟨k + 1, by omega, by go_num, by rw [HSN.out]; exact HO3, HB3, HBE3, by omega⟩
    · obtain rfl : k = 16 := by omega
      have hown := HO.out
      rw [List.take_of_length_le (by have := HD.out; omega)] at hown
      obtain ⟨A3, c3, rfl, _, _⟩ := own_form hown
      have hcv := conv_bytes (P := Tryd.prog) (T := 22) (S := 9) (e := 5) Tryd.underlying22 Tryd.underlying5 Tryd.underlying9 (c := c3) (Sl.of_own hown)
      clear hown HO
      go_wp2
      go_ret
      exact ⟨rfl, HBE.out⟩

end Go.Proofs.YtefalanfkihcdaaDoor
