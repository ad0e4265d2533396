/-
  The walk of the law: For every tag and at most 20 parts of at most 300 bytes, Of returns the digest that the specification defines, which depends only on the tag modulo 256.
-/
import Derived.Test.YtefalanfkihcdaaDoorSan2
import Derived.Test.YtefalanfkihcdaaDoorRNode2
import Derived.Test.YtefalanfkihcdaaDoorOnce2
namespace Go.Proofs.YtefalanfkihcdaaDoor.digestOfMatchesSpec
open Go.RowKit
set_option linter.unusedVariables false

theorem tag_wrap (x : Int) (a : Int) : tagB (wrap64 (x + 256 * a)) = tagB x := by
  unfold tagB
  congr 2
  unfold wrap64
  omega
theorem all_snoc (l : List ByteArray) (k : Nat) (hk : k < l.length) (h : ∀ j (hj : j < l.length), j < k → l[j].size ≤ 300) (h1 : l[k].size ≤ 300) : ∀ j (hj : j < l.length), j < k + 1 → l[j].size ≤ 300 := by
  intro j hj hjk
  by_cases hq : j = k
  · subst hq; exact h1
  · exact h j hj (by omega)

set_option maxHeartbeats 1000000 in
set_option maxRecDepth 100000 in
theorem walk (a0 : Int) (a1 : Int) (A2 : Option Addr) (c2 : Nat) (l2 : List ByteArray) (w : World) (w0 : -9223372036854775808 ≤ a0 ∧ a0 ≤ 9223372036854775807) (w1 : -128 ≤ a1 ∧ a1 ≤ 127) (x2 : Sl w w.heap.size A2 1 l2.length (l2.map Value.string)) (m2 : l2.length ≤ c2) (k2 : c2 ≤ maxLen) (w2 : ∀ s ∈ l2, s.size ≤ maxLen) (s2 : l2.length ≤ 140737488351232) (T0 : Tab w 0) (T1 : Tab w 1) :
    Calls Tryd.prog 4 #[.int .i64 a0, .int .i8 a1, .slice A2 l2.length c2] w fun e w' => e = .returned (.bool true) ∧ Below w.heap.size w w' := by
  have HS := hideIt (sanity_any w T1)
  by_cases hbig : 20 < l2.length
  · clear x2 T0 T1
    go_enter Tryd.func4, Tryd.ntmps4
    go_wp2_with (go_at_call 10; refine HS.out.mono ?_; rintro e w' ⟨rfl, hb⟩; have HB := hideIt hb; clear hb)
    go_ret
    exact ⟨rfl, HB.out⟩
  · have X2 := hideIt x2
    have W2 := hideIt w2
    have TT0 := hideIt T0
    have TT1 := hideIt T1
    clear x2 w2 T0 T1
    go_enter Tryd.func4, Tryd.ntmps4
    go_wp2_with (go_at_call 10; refine HS.out.mono ?_; rintro e w1 ⟨rfl, hb⟩; have HB1 := hideIt hb; clear hb)
    go_loopg [8] l2.length (fun g s8 wr => ∃ k : Nat, g + k = l2.length ∧ s8 = .int .i64 k ∧ Hid (wr = w1) ∧ Hid (∀ j (hj : j < l2.length), j < k → l2[j].size ≤ 300))
    case atStart => exact ⟨0, by omega, rfl, rfl, fun j hj h => by omega⟩
    case round =>
      obtain ⟨k, hg, rfl, HWR, HALL⟩ := hrel
      obtain ⟨wo, rfl⟩ : ∃ x, x = wr := ⟨wr, rfl⟩
      by_cases hk : k < l2.length
      · obtain ⟨b, off, rfl, hb, hc⟩ := (X2.out.below (by rw [HWR.out]; exact HB1.out : Below w.heap.size w wo)).str hk
        have hsz : l2[k].size ≤ maxLen := W2.out _ (List.getElem_mem hk)
        unfold maxLen at hsz
        have HSN := hideIt (all_snoc l2 k hk HALL.out)
        generalize l2[k] = s at *
        by_cases hs : 300 < s.size
        · go_wp2
          go_ret
          exact ⟨rfl, by rw [HWR.out]; exact HB1.out⟩
        · go_wp2
          go_roundg (gk - 1)
          case measure => omega
          case rel => exact ⟨k + 1, by omega, by go_num, HWR, HSN.out (by omega)⟩
      · have hkl : k = l2.length := by omega
        have hall : ∀ s ∈ l2, s.size ≤ 100000 := by
          intro s hs
          obtain ⟨j, hj, rfl⟩ := List.mem_iff_getElem.1 hs
          have := HALL.out j hj (by omega)
          omega
        have HBO : Hid (Below w.heap.size w wo) := by rw [HWR.out]; exact HB1.out
        obtain ⟨d, hd⟩ : ∃ d, d = cutD (msgS (tagB a0) l2) := ⟨_, rfl⟩
        have HDL : Hid (d.length = 16) := by rw [hd]; exact cutD_len _
        have HO1 := hideIt (fun (W : World) (hb : Below w.heap.size w W) => of_any A2 w.heap.size c2 a0 l2 W (X2.out.below hb) (by omega) hall hb.size (TT1.out.keep hb))
        have HO2 := hideIt (fun (W : World) (hb : Below w.heap.size w W) => of_any A2 w.heap.size c2 (wrap64 (a0 + 256 * a1)) l2 W (X2.out.below hb) (by omega) hall hb.size (TT1.out.keep hb))
        rw [tag_wrap] at HO2
        have HO3 := hideIt (fun (W : World) (hb : Below w.heap.size w W) => refOf_any A2 w.heap.size c2 a0 l2 W (X2.out.below hb) (by omega) hall hb.size (TT0.out.keep hb))
        rw [← hd] at HO1 HO2 HO3
        have hdd := equal_digest d d HDL.out HDL.out
        rw [decide_eq_true rfl] at hdd
        clear hd hall HALL HWR
        go_wp2_with (first
          | (go_at_call 13; refine (HO1.out _ HBO.out).mono ?_; rintro e w2 ⟨rfl, hb⟩; have HB2 := hideIt (HBO.out.trans (hb.mono HBO.out.size)); clear hb)
          | ((with_reducible refine at_store ?_); refine wpList_put rfl 30 (.tmp 9) (.tmp 30) rfl w2.heap.size (d.map bv) _ _ rfl rfl (Blk.new w2 30 (List.replicate 16 (Value.int .u8 0))) (by rw [List.length_map, HDL.out]; kernel_rfl) (by rw [List.length_map, HDL.out]; rfl) (bv_one _) ?_; intro w3 ht3 hb3; have HT3 := hideIt ht3; have HB3 := hideIt hb3; clear ht3 hb3))
        have HBW := hideIt (HT3.out.below (HB2.out.alloc HB2.out.size _) HB2.out.size)
        refine once_begin (fun W' => Blk W' w2.heap.size 30 (d.map bv)) 6 (by kernel_rfl) ?_
        refine wpAnyU_move (oi := ⟨some 31, _, _, _, _, _⟩) 0 ?_ rfl (by kernel_rfl) (by kernel_rfl) (by kernel_rfl) (by kernel_rfl) (fun _ _ _ h => h) (by kernel_rfl) ?_ (fun _ => HB3.out) ?_
        rotate_left
        · intro W'; go_simp; first | done | with_reducible rfl
        try simp only [Act.put]
        try simp only [List.setIfInBounds_toArray]
        try simp only [List.set_cons_succ]
        try simp only [List.set_cons_zero]
        refine wpAnyU_move (oi := ⟨some 32, _, _, _, _, _⟩) 1 ?_ rfl (by kernel_rfl) (by kernel_rfl) (by kernel_rfl) (by kernel_rfl) (fun _ _ _ h => h) (by kernel_rfl) ?_ (fun _ => HB3.out) ?_
        rotate_left
        · intro W'; go_simp; first | done | with_reducible rfl
        try simp only [Act.put]
        try simp only [List.setIfInBounds_toArray]
        try simp only [List.set_cons_succ]
        try simp only [List.set_cons_zero]
        refine wpAnyU_take (oi := ⟨some 33, _, _, _, _, _⟩) 2 (.agg (d.map bv).toArray) rfl (by kernel_rfl) (by kernel_rfl) (by kernel_rfl) (by kernel_rfl) (by kernel_rfl) (fun _ _ _ h => h) (by kernel_rfl) (fun W' hW' => exec_load_blk rfl rfl hW' (.array 16 5) (by kernel_rfl) rfl (isize16 _ HDL.out)) HB3.out ?_
        refine wpAnyU_move (oi := ⟨some 34, _, _, _, _, _⟩) 3 ?_ rfl (by kernel_rfl) (by kernel_rfl) (by kernel_rfl) (by kernel_rfl) (fun _ _ _ h => h) (by kernel_rfl) ?_ (fun _ => HB3.out) ?_
        rotate_left
        · intro W'; go_simp; first | done | with_reducible rfl
        try simp only [Act.put]
        try simp only [List.setIfInBounds_toArray]
        try simp only [List.set_cons_succ]
        try simp only [List.set_cons_zero]
        refine wpAnyU_move (oi := ⟨some 35, _, _, _, _, _⟩) 4 ?_ rfl (by kernel_rfl) (by kernel_rfl) (by kernel_rfl) (by kernel_rfl) (fun _ _ _ h => h) (by kernel_rfl) ?_ (fun _ => HB3.out) ?_
        rotate_left
        · intro W'; go_simp; first | done | with_reducible rfl
        try simp only [Act.put]
        try simp only [List.setIfInBounds_toArray]
        try simp only [List.set_cons_succ]
        try simp only [List.set_cons_zero]
        refine wpAnyU_one 5 (by kernel_rfl) rfl (fun K hK => ?_)
        go_wp2_with (go_at_call 14; refine (HO3.out _ HBW.out.drew).mono ?_; rintro e w5 ⟨rfl, hb⟩; have HB35 := hideIt (((Below.refl w3.heap.size w3).drew).trans hb); have HB5 := hideIt (HBW.out.trans (HB35.out.mono HBW.out.size)); clear hb)
        have HK5 := hideIt (HB3.out.kept HB35.out HB3.out.lt)
        refine hK _ _ (fun _ => HK5.out) ?_
        clear hK K
        refine wpAnyU_on (fun W' => Blk W' w2.heap.size 30 (d.map bv)) 17 (by kernel_rfl) rfl (fun K hK => ?_)
        go_wp2_with fail
        refine wpAnyU_move (oi := ⟨some 38, _, _, _, _, _⟩) 7 ?_ rfl (by kernel_rfl) (by kernel_rfl) (by kernel_rfl) (by kernel_rfl) (fun _ _ _ h => h) (by kernel_rfl) ?_ (fun _ => HK5.out) ?_
        rotate_left
        · intro W'; go_simp; first | done | with_reducible rfl
        try simp only [Act.put]
        try simp only [List.setIfInBounds_toArray]
        try simp only [List.set_cons_succ]
        try simp only [List.set_cons_zero]
        refine wpAnyU_move (oi := ⟨some 39, _, _, _, _, _⟩) 8 ?_ rfl (by kernel_rfl) (by kernel_rfl) (by kernel_rfl) (by kernel_rfl) (fun _ _ _ h => h) (by kernel_rfl) ?_ (fun _ => HK5.out) ?_
        rotate_left
        · intro W'; go_simp; first | done | with_reducible rfl
        try simp only [Act.put]
        try simp only [List.setIfInBounds_toArray]
        try simp only [List.set_cons_succ]
        try simp only [List.set_cons_zero]
        refine wpAnyU_take (oi := ⟨some 40, _, _, _, _, _⟩) 9 (.agg (d.map bv).toArray) rfl (by kernel_rfl) (by kernel_rfl) (by kernel_rfl) (by kernel_rfl) (by kernel_rfl) (fun _ _ _ h => h) (by kernel_rfl) (fun W' hW' => exec_load_blk rfl rfl hW' (.array 16 5) (by kernel_rfl) rfl (isize16 _ HDL.out)) HK5.out ?_
        refine wpAnyU_move (oi := ⟨some 41, _, _, _, _, _⟩) 10 ?_ rfl (by kernel_rfl) (by kernel_rfl) (by kernel_rfl) (by kernel_rfl) (fun _ _ _ h => h) (by kernel_rfl) ?_ (fun _ => HK5.out) ?_
        rotate_left
        · intro W'; go_simp; first | done | with_reducible rfl
        try simp only [Act.put]
        try simp only [List.setIfInBounds_toArray]
        try simp only [List.set_cons_succ]
        try simp only [List.set_cons_zero]
        refine wpAnyU_move (oi := ⟨some 42, _, _, _, _, _⟩) 11 ?_ rfl (by kernel_rfl) (by kernel_rfl) (by kernel_rfl) (by kernel_rfl) (fun _ _ _ h => h) (by kernel_rfl) ?_ (fun _ => HK5.out) ?_
        rotate_left
        · intro W'; go_simp; first | done | with_reducible rfl
        try simp only [Act.put]
        try simp only [List.setIfInBounds_toArray]
        try simp only [List.set_cons_succ]
        try simp only [List.set_cons_zero]
        refine wpAnyU_move (oi := ⟨some 43, _, _, _, _, _⟩) 12 ?_ rfl (by kernel_rfl) (by kernel_rfl) (by kernel_rfl) (by kernel_rfl) (fun _ _ _ h => h) (by kernel_rfl) ?_ (fun _ => HK5.out) ?_
        rotate_left
        · intro W'; go_simp; first | done | with_reducible rfl
        try simp only [Act.put]
        try simp only [List.setIfInBounds_toArray]
        try simp only [List.set_cons_succ]
        try simp only [List.set_cons_zero]
        refine wpAnyU_move (oi := ⟨some 44, _, _, _, _, _⟩) 13 ?_ rfl (by kernel_rfl) (by kernel_rfl) (by kernel_rfl) (by kernel_rfl) (fun _ _ _ h => h) (by kernel_rfl) ?_ (fun _ => HK5.out) ?_
        rotate_left
        · intro W'; go_simp; first | done | with_reducible rfl
        try simp only [Act.put]
        try simp only [List.setIfInBounds_toArray]
        try simp only [List.set_cons_succ]
        try simp only [List.set_cons_zero]
        refine wpAnyU_move (oi := ⟨some 45, _, _, _, _, _⟩) 14 ?_ rfl (by kernel_rfl) (by kernel_rfl) (by kernel_rfl) (by kernel_rfl) (fun _ _ _ h => h) (by kernel_rfl) ?_ (fun _ => HK5.out) ?_
        rotate_left
        · intro W'; go_simp; first | done | with_reducible rfl
        try simp only [Act.put]
        try simp only [List.setIfInBounds_toArray]
        try simp only [List.set_cons_succ]
        try simp only [List.set_cons_zero]
        refine wpAnyU_move (oi := ⟨some 46, _, _, _, _, _⟩) 15 ?_ rfl (by kernel_rfl) (by kernel_rfl) (by kernel_rfl) (by kernel_rfl) (fun _ _ _ h => h) (by kernel_rfl) ?_ (fun _ => HK5.out) ?_
        rotate_left
        · intro W'; go_simp; first | done | with_reducible rfl
        try simp only [Act.put]
        try simp only [List.setIfInBounds_toArray]
        try simp only [List.set_cons_succ]
        try simp only [List.set_cons_zero]
        refine wpAnyU_one 16 (by kernel_rfl) rfl (fun K hK => ?_)
        go_wp2_with (go_at_call 13; refine (HO2.out _ HB5.out).mono ?_; rintro e w6 ⟨rfl, hb⟩; have HB6 := hideIt (HB5.out.trans (hb.mono HB5.out.size)); have HK6 := hideIt (HK5.out.kept hb HK5.out.lt); clear hb)
        refine hK _ _ (fun _ => HK6.out) ?_
        clear hK K
        refine wpAnyU_at (by kernel_rfl) rfl (fun K hK => ?_)
        go_wp2_with fail
        refine wpAnyU_move (oi := ⟨some 49, _, _, _, _, _⟩) 18 ?_ rfl (by kernel_rfl) (by kernel_rfl) (by kernel_rfl) (by kernel_rfl) (fun _ _ _ h => h) (by kernel_rfl) ?_ (fun _ => trivial) ?_
        rotate_left
        · intro W'; go_simp; first | done | with_reducible rfl
        try simp only [Act.put]
        try simp only [List.setIfInBounds_toArray]
        try simp only [List.set_cons_succ]
        try simp only [List.set_cons_zero]
        refine wpAnyU_move (oi := ⟨some 6, _, _, _, _, _⟩) 19 ?_ rfl (by kernel_rfl) (by kernel_rfl) (by kernel_rfl) (by kernel_rfl) (fun _ _ _ h => h) (by kernel_rfl) ?_ (fun _ => trivial) ?_
        rotate_left
        · intro W'; go_simp; first | done | with_reducible rfl
        try simp only [Act.put]
        try simp only [List.setIfInBounds_toArray]
        try simp only [List.set_cons_succ]
        try simp only [List.set_cons_zero]
        refine wpAnyU_done (by kernel_rfl) ?_
        go_wp2
        go_ret
        exact ⟨rfl, HB6.out⟩

end Go.Proofs.YtefalanfkihcdaaDoor.digestOfMatchesSpec
