/-
  The walk of the law: For every list of at most 64 digests, Verify accepts the proof of each element under the root of the list, and VerifyPrefix the prefix proof of each non-empty prefix under the roots of the prefix and of the list.
-/
import Derived.Test.YtefalanfkihcdaaDoorSan2
import Derived.Test.YtefalanfkihcdaaDoorPair2
namespace Go.Proofs.YtefalanfkihcdaaDoor.digestProofsAccepted
open Go.RowKit
set_option linter.unusedVariables false

set_option maxHeartbeats 3000000 in
set_option maxRecDepth 100000 in
theorem walk (A0 : Option Addr) (c0 : Nat) (l0 : List (List UInt8)) (w : World) (x0 : Ds w w.heap.size A0 l0.length l0) (m0 : l0.length ≤ c0) (k0 : c0 ≤ maxLen) (s0 : l0.length ≤ 140737488351232) (T1 : Tab w 1) :
    Calls Tryd.prog 7 #[.slice A0 l0.length c0] w fun e w' => e = .returned (.bool true) ∧ Below w.heap.size w w' := by
  have HS := hideIt (sanity_any w T1)
  by_cases hbig : 64 < l0.length
  · clear x0 T1
    go_enter Tryd.func7, Tryd.ntmps7
    go_wp2_with (go_at_call 10; refine HS.out.mono ?_; rintro e w' ⟨rfl, hb⟩; have HB := hideIt hb; clear hb)
    go_ret
    exact ⟨rfl, HB.out⟩
  · have X0 := hideIt x0
    have TT1 := hideIt T1
    have HR0 := hideIt (fun (W : World) (hb : Below w.heap.size w W) => root_any l0.length l0 A0 w.heap.size l0.length c0 W (Nat.le_refl _) (by omega) (x0.below hb (Nat.le_refl _)) m0 hb.size (T1.keep hb))
    obtain ⟨r, hr⟩ : ∃ r, r = rootD l0 := ⟨_, rfl⟩
    have HRL : Hid (r.length = 16) := by rw [hr]; exact rootD_len _
    rw [← hr] at HR0
    have HRE := hideIt hr
    clear hr x0 T1
    go_enter Tryd.func7, Tryd.ntmps7
    go_wp2_with (first
      | (go_at_call 10; refine HS.out.mono ?_; rintro e w1 ⟨rfl, hb⟩; have HB1 := hideIt hb; clear hb)
      | (go_at_call 19; refine (HR0.out _ HB1.out).mono ?_; rintro e w2 ⟨rfl, hb⟩; have HB2 := hideIt (HB1.out.trans (hb.mono HB1.out.size)); clear hb)
      | ((with_reducible refine at_store ?_); refine wpList_put rfl 30 (.tmp 4) (.tmp 16) rfl w2.heap.size (r.map bv) _ _ rfl rfl (Blk.new w2 30 (List.replicate 16 (Value.int .u8 0))) (by rw [List.length_map, HRL.out]; kernel_rfl) (by rw [List.length_map, HRL.out]; rfl) (bv_one _) ?_; intro w3 ht3 hb3; have HB3 := hideIt (ht3.below (HB2.out.alloc HB2.out.size (.cells (List.replicate 16 (Value.int .u8 0)).toArray 30)) HB2.out.size); have HK3 := hideIt hb3; clear ht3 hb3))
    obtain ⟨g4, hg4⟩ : ∃ g, g = w2.heap.size := ⟨_, rfl⟩
    rw [← hg4] at HK3
    rw [← hg4]
    clear hg4 HB2 HB1
    go_loopg [5] l0.length (fun g s5 wr => ∃ k : Nat, g + k = l0.length ∧ s5 = .int .i64 k ∧ Hid (Blk wr g4 30 (r.map bv)) ∧ Hid (Below w.heap.size w wr))
    case atStart => exact ⟨0, by omega, rfl, HK3, HB3⟩
    case round =>
      obtain ⟨k, hg, rfl, HK, HB⟩ := hrel
      obtain ⟨wo, rfl⟩ : ∃ x, x = wr := ⟨wr, rfl⟩
      by_cases hk : k < l0.length
      · have HX := hideIt (X0.out.below HB.out (Nat.le_refl _))
        have HPR := hideIt (prove_any A0 w.heap.size l0.length c0 k l0 wo HX.out m0 (by omega) HB.out.size (TT1.out.keep HB.out) hk)
        have HPP := hideIt (fun (W : World) (hb : Below wo.heap.size wo W) => pp_any l0 A0 w.heap.size l0.length c0 (k + 1) W (by omega) (HX.out.below hb HB.out.size) m0 (Nat.le_trans HB.out.size hb.size) ((TT1.out.keep HB.out).keep hb) (by omega) (by omega))
        have h1 := proofD_len l0 k 30 (by omega)
        have H16 := hideIt (proofD_16 l0 k)
        have H16' := hideIt (subD_16 l0 30 (k + 1) true (by omega))
        have h2 := subD_len 30 l0 (k + 1) true (by omega)
        have HV := hideIt (verB_proof l0 k hk (by omega))
        have HVP := hideIt (vpB_accept l0 (k + 1) (by omega) (by omega) (by omega))
        rw [show ((k + 1 : Nat) : Int) = (k : Int) + 1 from rfl] at HPP HVP
        generalize proofD l0 k = P at *
        generalize subD l0 (k + 1) true = Q at *
        go_wp2_with (first
          | (go_at_call 15; refine HPR.out.mono ?_; rintro e w4 ⟨v4, rfl, hown, hb⟩; obtain ⟨A4, c4, rfl, hc41, hc42⟩ := own_form hown; have HS4 := hideIt (Sl.of_own hown); have HB4 := hideIt hb; clear hown hb)
          | (go_at_call 17; refine (HPP.out _ HB4.out).mono ?_; rintro e w5 ⟨v5, rfl, hown, hb⟩; obtain ⟨A5, c5, rfl, hc51, hc52⟩ := own_form hown; have HS5 := hideIt (Sl.of_own hown); have HB45 := hideIt hb; have HB5 := hideIt (HB4.out.trans (hb.mono HB4.out.size)); clear hown hb))
        obtain ⟨bb, off, rfl, hbb, hc, hdl⟩ := ds_load (HX.out.below HB5.out HB.out.size) hk
        have hhi := fun W => run_hi (some ⟨bb, off, none⟩) (n := l0.length) (cap := c0) (k := k + 1) (by omega) W
        rw [show ((k + 1 : Nat) : Int) = (k : Int) + 1 from rfl] at hhi
        have hk1 : (k : Int) < (l0.length : Int) := by omega
        have hk2 : (0 : Int) ≤ (k : Int) + 1 := by omega
        have hk3 : (k : Int) + 1 ≤ (c0 : Int) := by omega
        have HWRAP : Hid (IntKind.i64.wrap ((k : Int) + 1) = (k : Int) + 1) := IntWalk.i64_in _ (by omega)
        obtain ⟨d, hd⟩ : ∃ d, d = l0.getD k [] := ⟨_, rfl⟩
        rw [← hd] at hc hdl HV
        have HDL := hideIt hdl
        have HC5 := hideIt hc
        have HK5 := hideIt (HK.out.kept HB5.out HK.out.lt)
        have hrt := rootD_len (l0.take (k + 1))
        have HRT := hideIt (fun (W : World) (hb : Below wo.heap.size wo W) => root_any (k + 1) (l0.take (k + 1)) (some ⟨bb, off, none⟩) w.heap.size (k + 1) c0 W (Nat.le_refl _) (by omega) ((HX.out.hi (k + 1) (by omega)).below hb HB.out.size) (by omega) (Nat.le_trans HB.out.size hb.size) ((TT1.out.keep HB.out).keep hb))
        rw [← HRE.out] at HV HVP
        generalize rootD (l0.take (k + 1)) = r1 at *
        have HR1L := hideIt hrt
        have HW := hideIt (fun (W : World) (hb : Below wo.heap.size wo W) (h : Ds W W.heap.size A4 P.length P) => verify_any r d HRL.out HDL.out (l0.length : Int) (k : Int) (by omega) A4 P.length c4 P W h ((TT1.out.keep HB.out).keep hb) (by omega))
        rw [HV.out] at HW
        have HW2 := hideIt (fun (W : World) (hb : Below wo.heap.size wo W) (h : Ds W W.heap.size A5 Q.length Q) => vp_any r1 r HR1L.out HRL.out ((k : Int) + 1) (l0.length : Int) (by omega) A5 c5 Q W h hc51 (by omega) ((TT1.out.keep HB.out).keep hb))
        rw [HVP.out] at HW2
        clear hc hdl hd hrt
        refine loads_begin_n 34 [(16, fun W' => Blk W' g4 30 (r.map bv) ∧ Has16 W' ⟨bb, off + k * 16, none⟩ d), (31, fun W' => Blk W' g4 30 (r.map bv))] rfl (by kernel_rfl) ?_
        refine wpAnyL_move (oi := ⟨some 36, _, _, _, _, _⟩) 0 ?_ rfl (by kernel_rfl) (by kernel_rfl) (by kernel_rfl) (by kernel_rfl) (fun _ _ _ h => h) (by kernel_rfl) ?_ (Hooks.add ⟨HK5.out, HC5.out⟩ (Hooks.add HK5.out (Hooks.nil _ _))) ?_
        rotate_left
        · intro W'; go_simp; first | done | with_reducible rfl
        try simp only [Act.put]
        try simp only [List.setIfInBounds_toArray]
        try simp only [List.set_cons_succ]
        try simp only [List.set_cons_zero]
        refine wpAnyL_move (oi := ⟨some 37, _, _, _, _, _⟩) 1 ?_ rfl (by kernel_rfl) (by kernel_rfl) (by kernel_rfl) (by kernel_rfl) (fun _ _ _ h => h) (by kernel_rfl) ?_ (Hooks.add ⟨HK5.out, HC5.out⟩ (Hooks.add HK5.out (Hooks.nil _ _))) ?_
        rotate_left
        · intro W'; go_simp; first | done | with_reducible rfl
        try simp only [Act.put]
        try simp only [List.setIfInBounds_toArray]
        try simp only [List.set_cons_succ]
        try simp only [List.set_cons_zero]
        refine wpAnyL_move (oi := ⟨some 38, _, _, _, _, _⟩) 2 ?_ rfl (by kernel_rfl) (by kernel_rfl) (by kernel_rfl) (by kernel_rfl) (fun _ _ _ h => h) (by kernel_rfl) ?_ (Hooks.add ⟨HK5.out, HC5.out⟩ (Hooks.add HK5.out (Hooks.nil _ _))) ?_
        rotate_left
        · intro W'; go_simp; first | done | with_reducible rfl
        try simp only [Act.put]
        try simp only [List.setIfInBounds_toArray]
        try simp only [List.set_cons_succ]
        try simp only [List.set_cons_zero]
        refine wpAnyL_move (oi := ⟨some 39, _, _, _, _, _⟩) 3 ?_ rfl (by kernel_rfl) (by kernel_rfl) (by kernel_rfl) (by kernel_rfl) (fun _ _ _ h => h) (by kernel_rfl) ?_ (Hooks.add ⟨HK5.out, HC5.out⟩ (Hooks.add HK5.out (Hooks.nil _ _))) ?_
        rotate_left
        · intro W'; go_simp; first | done | with_reducible rfl
        try simp only [Act.put]
        try simp only [List.setIfInBounds_toArray]
        try simp only [List.set_cons_succ]
        try simp only [List.set_cons_zero]
        refine wpAnyL_move (oi := ⟨some 40, _, _, _, _, _⟩) 4 ?_ rfl (by kernel_rfl) (by kernel_rfl) (by kernel_rfl) (by kernel_rfl) (fun _ _ _ h => h) (by kernel_rfl) ?_ (Hooks.add ⟨HK5.out, HC5.out⟩ (Hooks.add HK5.out (Hooks.nil _ _))) ?_
        rotate_left
        · intro W'; go_simp; first | done | with_reducible rfl
        try simp only [Act.put]
        try simp only [List.setIfInBounds_toArray]
        try simp only [List.set_cons_succ]
        try simp only [List.set_cons_zero]
        refine wpAnyL_move (oi := ⟨some 41, _, _, _, _, _⟩) 5 ?_ rfl (by kernel_rfl) (by kernel_rfl) (by kernel_rfl) (by kernel_rfl) (fun _ _ _ h => h) (by kernel_rfl) ?_ (Hooks.add ⟨HK5.out, HC5.out⟩ (Hooks.add HK5.out (Hooks.nil _ _))) ?_
        rotate_left
        · intro W'; go_simp; first | done | with_reducible rfl
        try simp only [Act.put]
        try simp only [List.setIfInBounds_toArray]
        try simp only [List.set_cons_succ]
        try simp only [List.set_cons_zero]
        refine wpAnyL_move (oi := ⟨some 42, _, _, _, _, _⟩) 6 ?_ rfl (by kernel_rfl) (by kernel_rfl) (by kernel_rfl) (by kernel_rfl) (fun _ _ _ h => h) (by kernel_rfl) ?_ (Hooks.add ⟨HK5.out, HC5.out⟩ (Hooks.add HK5.out (Hooks.nil _ _))) ?_
        rotate_left
        · intro W'; go_simp; first | done | with_reducible rfl
        try simp only [Act.put]
        try simp only [List.setIfInBounds_toArray]
        try simp only [List.set_cons_succ]
        try simp only [List.set_cons_zero]
        refine wpAnyL_take (oi := ⟨some 43, _, _, _, _, _⟩) 7 16 (.agg (r.map bv).toArray) _ rfl (by kernel_rfl) (by kernel_rfl) (by kernel_rfl) (by kernel_rfl) (by kernel_rfl) (by kernel_rfl) (.head _) (fun _ _ _ h => h) (by kernel_rfl) (fun W' hW' => exec_load_blk rfl rfl (hW'.1) (.array 16 5) (by kernel_rfl) rfl (isize16 _ HRL.out)) (Hooks.add ⟨HK5.out, HC5.out⟩ (Hooks.add HK5.out (Hooks.nil _ _))) ?_
        try simp only [Act.put]
        try simp only [List.setIfInBounds_toArray]
        try simp only [List.set_cons_succ]
        try simp only [List.set_cons_zero]
        refine wpAnyL_move (oi := ⟨some 44, _, _, _, _, _⟩) 8 ?_ rfl (by kernel_rfl) (by kernel_rfl) (by kernel_rfl) (by kernel_rfl) (fun _ _ _ h => h) (by kernel_rfl) ?_ (Hooks.add ⟨HK5.out, HC5.out⟩ (Hooks.add HK5.out (Hooks.nil _ _))) ?_
        rotate_left
        · intro W'; go_simp; first | done | with_reducible rfl
        try simp only [Act.put]
        try simp only [List.setIfInBounds_toArray]
        try simp only [List.set_cons_succ]
        try simp only [List.set_cons_zero]
        refine wpAnyL_move (oi := ⟨some 45, _, _, _, _, _⟩) 9 ?_ rfl (by kernel_rfl) (by kernel_rfl) (by kernel_rfl) (by kernel_rfl) (fun _ _ _ h => h) (by kernel_rfl) ?_ (Hooks.add ⟨HK5.out, HC5.out⟩ (Hooks.add HK5.out (Hooks.nil _ _))) ?_
        rotate_left
        · intro W'; go_simp; first | done | with_reducible rfl
        try simp only [Act.put]
        try simp only [List.setIfInBounds_toArray]
        try simp only [List.set_cons_succ]
        try simp only [List.set_cons_zero]
        refine wpAnyL_move (oi := ⟨some 46, _, _, _, _, _⟩) 10 ?_ rfl (by kernel_rfl) (by kernel_rfl) (by kernel_rfl) (by kernel_rfl) (fun _ _ _ h => h) (by kernel_rfl) ?_ (Hooks.add ⟨HK5.out, HC5.out⟩ (Hooks.add HK5.out (Hooks.nil _ _))) ?_
        rotate_left
        · intro W'; go_simp; first | done | with_reducible rfl
        try simp only [Act.put]
        try simp only [List.setIfInBounds_toArray]
        try simp only [List.set_cons_succ]
        try simp only [List.set_cons_zero]
        refine wpAnyL_move (oi := ⟨some 47, _, _, _, _, _⟩) 11 ?_ rfl (by kernel_rfl) (by kernel_rfl) (by kernel_rfl) (by kernel_rfl) (fun _ _ _ h => h) (by kernel_rfl) ?_ (Hooks.add ⟨HK5.out, HC5.out⟩ (Hooks.add HK5.out (Hooks.nil _ _))) ?_
        rotate_left
        · intro W'; go_simp; first | done | with_reducible rfl
        try simp only [Act.put]
        try simp only [List.setIfInBounds_toArray]
        try simp only [List.set_cons_succ]
        try simp only [List.set_cons_zero]
        refine wpAnyL_move (oi := ⟨some 48, _, _, _, _, _⟩) 12 ?_ rfl (by kernel_rfl) (by kernel_rfl) (by kernel_rfl) (by kernel_rfl) (fun _ _ _ h => h) (by kernel_rfl) ?_ (Hooks.add ⟨HK5.out, HC5.out⟩ (Hooks.add HK5.out (Hooks.nil _ _))) ?_
        rotate_left
        · intro W'; go_simp; first | done | with_reducible rfl
        try simp only [Act.put]
        try simp only [List.setIfInBounds_toArray]
        try simp only [List.set_cons_succ]
        try simp only [List.set_cons_zero]
        refine wpAnyL_move (oi := ⟨some 49, _, _, _, _, _⟩) 13 ?_ rfl (by kernel_rfl) (by kernel_rfl) (by kernel_rfl) (by kernel_rfl) (fun _ _ _ h => h) (by kernel_rfl) ?_ (Hooks.add ⟨HK5.out, HC5.out⟩ (Hooks.add HK5.out (Hooks.nil _ _))) ?_
        rotate_left
        · intro W'; go_simp; first | done | with_reducible rfl
        try simp only [Act.put]
        try simp only [List.setIfInBounds_toArray]
        try simp only [List.set_cons_succ]
        try simp only [List.set_cons_zero]
        refine wpAnyL_take (oi := ⟨some 50, _, _, _, _, _⟩) 14 16 (.agg (d.map bv).toArray) _ rfl (by kernel_rfl) (by kernel_rfl) (by kernel_rfl) (by kernel_rfl) (by kernel_rfl) (by kernel_rfl) (.head _) (fun _ _ _ h => h) (by kernel_rfl) (fun W' hW' => exec_load_mid rfl rfl (range16 (hW'.2)) (.array 16 5) (by kernel_rfl) rfl (isize16 _ HDL.out)) (Hooks.add ⟨HK5.out, HC5.out⟩ (Hooks.add HK5.out (Hooks.nil _ _))) ?_
        try simp only [Act.put]
        try simp only [List.setIfInBounds_toArray]
        try simp only [List.set_cons_succ]
        try simp only [List.set_cons_zero]
        refine wpAnyL_move (oi := ⟨some 51, _, _, _, _, _⟩) 15 ?_ rfl (by kernel_rfl) (by kernel_rfl) (by kernel_rfl) (by kernel_rfl) (fun _ _ _ h => h) (by kernel_rfl) ?_ (Hooks.add ⟨HK5.out, HC5.out⟩ (Hooks.add HK5.out (Hooks.nil _ _))) ?_
        rotate_left
        · intro W'; go_simp; first | done | with_reducible rfl
        try simp only [Act.put]
        try simp only [List.setIfInBounds_toArray]
        try simp only [List.set_cons_succ]
        try simp only [List.set_cons_zero]
        refine wpAnyL_one 16 (by kernel_rfl) rfl (fun K hK => ?_)
        go_wp2_with (go_at_call 22; refine (HW.out _ HB5.out.drew ⟨rfl, H16.out, (HS4.out.below HB45.out).wide HB45.out.size⟩).mono ?_; rintro e w6 ⟨rfl, hb⟩; have hb' : Below w5.heap.size w5 w6 := ((Below.refl _ _).drew).trans hb; have HB6 := hideIt (HB5.out.trans (hb'.mono HB5.out.size)); have HK6 := hideIt (HK5.out.kept hb' HK5.out.lt); have HB56 := hideIt hb'; clear hb hb')
        refine hK _ _ (Hooks.skip (by kernel_rfl) (Hooks.add HK6.out (Hooks.nil _ _))) ?_
        clear hK K
        refine wpAnyL_move (oi := ⟨some 53, _, _, _, _, _⟩) 17 ?_ rfl (by kernel_rfl) (by kernel_rfl) (by kernel_rfl) (by kernel_rfl) (fun _ _ _ h => h) (by kernel_rfl) ?_ (Hooks.skip (by kernel_rfl) (Hooks.add HK6.out (Hooks.nil _ _))) ?_
        rotate_left
        · intro W'; go_simp; first | done | with_reducible rfl
        try simp only [Act.put]
        try simp only [List.setIfInBounds_toArray]
        try simp only [List.set_cons_succ]
        try simp only [List.set_cons_zero]
        refine wpAnyL_move (oi := ⟨some 54, _, _, _, _, _⟩) 18 ?_ rfl (by kernel_rfl) (by kernel_rfl) (by kernel_rfl) (by kernel_rfl) (fun _ _ _ h => h) (by kernel_rfl) ?_ (Hooks.skip (by kernel_rfl) (Hooks.add HK6.out (Hooks.nil _ _))) ?_
        rotate_left
        · intro W'; go_simp; first | done | with_reducible rfl
        try simp only [Act.put]
        try simp only [List.setIfInBounds_toArray]
        try simp only [List.set_cons_succ]
        try simp only [List.set_cons_zero]
        refine wpAnyL_move (oi := ⟨some 55, _, _, _, _, _⟩) 19 ?_ rfl (by kernel_rfl) (by kernel_rfl) (by kernel_rfl) (by kernel_rfl) (fun _ _ _ h => h) (by kernel_rfl) ?_ (Hooks.skip (by kernel_rfl) (Hooks.add HK6.out (Hooks.nil _ _))) ?_
        rotate_left
        · intro W'; go_simp; first | done | with_reducible rfl
        try simp only [Act.put]
        try simp only [List.setIfInBounds_toArray]
        try simp only [List.set_cons_succ]
        try simp only [List.set_cons_zero]
        refine wpAnyL_move (oi := ⟨some 56, _, _, _, _, _⟩) 20 ?_ rfl (by kernel_rfl) (by kernel_rfl) (by kernel_rfl) (by kernel_rfl) (fun _ _ _ h => h) (by kernel_rfl) ?_ (Hooks.skip (by kernel_rfl) (Hooks.add HK6.out (Hooks.nil _ _))) ?_
        rotate_left
        · intro W'; go_simp; first | done | with_reducible rfl
        try simp only [Act.put]
        try simp only [List.setIfInBounds_toArray]
        try simp only [List.set_cons_succ]
        try simp only [List.set_cons_zero]
        refine wpAnyL_move (oi := ⟨some 57, _, _, _, _, _⟩) 21 ?_ rfl (by kernel_rfl) (by kernel_rfl) (by kernel_rfl) (by kernel_rfl) (fun _ _ _ h => h) (by kernel_rfl) ?_ (Hooks.skip (by kernel_rfl) (Hooks.add HK6.out (Hooks.nil _ _))) ?_
        rotate_left
        · intro W'; go_simp; first | done | with_reducible rfl
        try simp only [Act.put]
        try simp only [List.setIfInBounds_toArray]
        try simp only [List.set_cons_succ]
        try simp only [List.set_cons_zero]
        refine wpAnyL_move (oi := ⟨some 58, _, _, _, _, _⟩) 22 ?_ rfl (by kernel_rfl) (by kernel_rfl) (by kernel_rfl) (by kernel_rfl) (fun _ _ _ h => h) (by kernel_rfl) ?_ (Hooks.skip (by kernel_rfl) (Hooks.add HK6.out (Hooks.nil _ _))) ?_
        rotate_left
        · intro W'; go_simp; first | done | with_reducible rfl
        try simp only [Act.put]
        try simp only [List.setIfInBounds_toArray]
        try simp only [List.set_cons_succ]
        try simp only [List.set_cons_zero]
        simp only [HWRAP.out]
        refine wpAnyL_move (oi := ⟨some 59, _, _, _, _, _⟩) 23 ?_ rfl (by kernel_rfl) (by kernel_rfl) (by kernel_rfl) (by kernel_rfl) (fun _ _ _ h => h) (by kernel_rfl) ?_ (Hooks.skip (by kernel_rfl) (Hooks.add HK6.out (Hooks.nil _ _))) ?_
        rotate_left
        · intro W'; go_simp; first | done | with_reducible rfl
        try simp only [Act.put]
        try simp only [List.setIfInBounds_toArray]
        try simp only [List.set_cons_succ]
        try simp only [List.set_cons_zero]
        refine wpAnyL_take (oi := ⟨some 61, _, _, _, _, _⟩) 25 31 (.agg (r.map bv).toArray) _ rfl (by kernel_rfl) (by kernel_rfl) (by kernel_rfl) (by kernel_rfl) (by kernel_rfl) (by kernel_rfl) (.tail _ (.head _)) (fun _ _ _ h => h) (by kernel_rfl) (fun W' hW' => exec_load_blk rfl rfl (hW') (.array 16 5) (by kernel_rfl) rfl (isize16 _ HRL.out)) (Hooks.skip (by kernel_rfl) (Hooks.add HK6.out (Hooks.nil _ _))) ?_
        try simp only [Act.put]
        try simp only [List.setIfInBounds_toArray]
        try simp only [List.set_cons_succ]
        try simp only [List.set_cons_zero]
        refine wpAnyL_move (oi := ⟨some 62, _, _, _, _, _⟩) 26 ?_ rfl (by kernel_rfl) (by kernel_rfl) (by kernel_rfl) (by kernel_rfl) (fun _ _ _ h => h) (by kernel_rfl) ?_ (Hooks.skip (by kernel_rfl) (Hooks.add HK6.out (Hooks.nil _ _))) ?_
        rotate_left
        · intro W'; go_simp; first | done | with_reducible rfl
        try simp only [Act.put]
        try simp only [List.setIfInBounds_toArray]
        try simp only [List.set_cons_succ]
        try simp only [List.set_cons_zero]
        refine wpAnyL_move (oi := ⟨some 63, _, _, _, _, _⟩) 27 ?_ rfl (by kernel_rfl) (by kernel_rfl) (by kernel_rfl) (by kernel_rfl) (fun _ _ _ h => h) (by kernel_rfl) ?_ (Hooks.skip (by kernel_rfl) (Hooks.add HK6.out (Hooks.nil _ _))) ?_
        rotate_left
        · intro W'; go_simp; first | done | with_reducible rfl
        try simp only [Act.put]
        try simp only [List.setIfInBounds_toArray]
        try simp only [List.set_cons_succ]
        try simp only [List.set_cons_zero]
        simp only [HWRAP.out]
        refine wpAnyL_move (oi := ⟨some 64, _, _, _, _, _⟩) 28 ?_ rfl (by kernel_rfl) (by kernel_rfl) (by kernel_rfl) (by kernel_rfl) (fun _ _ _ h => h) (by kernel_rfl) ?_ (Hooks.skip (by kernel_rfl) (Hooks.add HK6.out (Hooks.nil _ _))) ?_
        rotate_left
        · intro W'; go_simp; first | done | with_reducible rfl
        try simp only [Act.put]
        try simp only [List.setIfInBounds_toArray]
        try simp only [List.set_cons_succ]
        try simp only [List.set_cons_zero]
        refine wpAnyL_move (oi := ⟨some 65, _, _, _, _, _⟩) 29 ?_ rfl (by kernel_rfl) (by kernel_rfl) (by kernel_rfl) (by kernel_rfl) (fun _ _ _ h => h) (by kernel_rfl) ?_ (Hooks.skip (by kernel_rfl) (Hooks.add HK6.out (Hooks.nil _ _))) ?_
        rotate_left
        · intro W'; go_simp; first | done | with_reducible rfl
        try simp only [Act.put]
        try simp only [List.setIfInBounds_toArray]
        try simp only [List.set_cons_succ]
        try simp only [List.set_cons_zero]
        refine wpAnyL_move (oi := ⟨some 66, _, _, _, _, _⟩) 30 ?_ rfl (by kernel_rfl) (by kernel_rfl) (by kernel_rfl) (by kernel_rfl) (fun _ _ _ h => h) (by kernel_rfl) ?_ (Hooks.skip (by kernel_rfl) (Hooks.add HK6.out (Hooks.nil _ _))) ?_
        rotate_left
        · intro W'; go_simp; first | done | with_reducible rfl
        try simp only [Act.put]
        try simp only [List.setIfInBounds_toArray]
        try simp only [List.set_cons_succ]
        try simp only [List.set_cons_zero]
        refine wpAnyL_one 24 (by kernel_rfl) rfl (fun K hK => ?_)
        go_wp2_with (go_at_call 19; refine (HRT.out _ HB6.out).mono ?_; rintro e w7 ⟨rfl, hb⟩; have HB7 := hideIt (HB6.out.trans (hb.mono HB6.out.size)); have HK7 := hideIt (HK6.out.kept hb HK6.out.lt); have HB57 := hideIt (HB56.out.trans (hb.mono HB56.out.size)); clear hb)
        refine hK _ _ (Hooks.skip (by kernel_rfl) (Hooks.add HK7.out (Hooks.nil _ _))) ?_
        clear hK K
        refine wpAnyL_one 31 (by kernel_rfl) rfl (fun K hK => ?_)
        go_wp2_with (go_at_call 24; refine (HW2.out _ HB7.out ⟨rfl, H16'.out, (HS5.out.below HB57.out).wide HB57.out.size⟩).mono ?_; rintro e w8 ⟨rfl, hb⟩; have HB8 := hideIt (HB7.out.trans (hb.mono HB7.out.size)); have HK8 := hideIt (HK7.out.kept hb HK7.out.lt); clear hb)
        refine hK _ _ (Hooks.skip (by kernel_rfl) (Hooks.skip (by kernel_rfl) (Hooks.nil _ _))) ?_
        clear hK K
        refine wpAnyL_move (oi := ⟨some 68, _, _, _, _, _⟩) 32 ?_ rfl (by kernel_rfl) (by kernel_rfl) (by kernel_rfl) (by kernel_rfl) (fun _ _ _ h => h) (by kernel_rfl) ?_ (Hooks.skip (by kernel_rfl) (Hooks.skip (by kernel_rfl) (Hooks.nil _ _))) ?_
        rotate_left
        · intro W'; go_simp; first | done | with_reducible rfl
        try simp only [Act.put]
        try simp only [List.setIfInBounds_toArray]
        try simp only [List.set_cons_succ]
        try simp only [List.set_cons_zero]
        refine wpAnyL_move (oi := ⟨some 69, _, _, _, _, _⟩) 33 ?_ rfl (by kernel_rfl) (by kernel_rfl) (by kernel_rfl) (by kernel_rfl) (fun _ _ _ h => h) (by kernel_rfl) ?_ (Hooks.skip (by kernel_rfl) (Hooks.skip (by kernel_rfl) (Hooks.nil _ _))) ?_
        rotate_left
        · intro W'; go_simp; first | done | with_reducible rfl
        try simp only [Act.put]
        try simp only [List.setIfInBounds_toArray]
        try simp only [List.set_cons_succ]
        try simp only [List.set_cons_zero]
        refine loads_done (by kernel_rfl) ?_
        go_wp2
        go_roundg (gk - 1)
        case measure => omega
        case rel => exact ⟨k + 1, by omega, by go_num, HK8, HB.out.trans (HB8.out.mono HB.out.size)⟩
      · go_wp2
        go_ret
        exact ⟨rfl, HB.out⟩

end Go.Proofs.YtefalanfkihcdaaDoor.digestProofsAccepted
