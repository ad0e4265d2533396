/-
  Prefix proofs, walked: the reference's sub, ProvePrefix.
-/
import Derived.Test.YtkjnimcapjjfdaaDoorSub
import Derived.Test.YtkjnimcapjjfdaaDoorRRoot
namespace Go.Proofs.YtkjnimcapjjfdaaDoor
open Go.RowKit
set_option linter.unusedVariables false

set_option maxHeartbeats 800000 in
set_option maxRecDepth 100000 in
theorem refSub_all (l : List (List UInt8)) (A : Option Addr) (B n c : Nat) (whole : Bool) (w : World) (hn9 : n ≤ 1000000000) (hD : Ds w B A n l) (hnc : n ≤ c) (hB : B ≤ w.heap.size) (hT : Tab w 0) :
    Calls Tryd.prog 42 #[.slice A n c, .int .i64 (n : Int), .bool whole] w fun e w' => ∃ v, e = .returned v ∧ w'.ownsRow w.heap.size 30 16 v (subD l n whole).length ((subD l n whole).flatten.map bv) ∧ Below w.heap.size w w' := by
  have hs := subD_all l whole
  rw [hD.1] at hs
  rw [hs]
  obtain ⟨i0, hi0, hz0, hz1, hz2⟩ := info_parts Tryd.infoDig
  have HROOT := hideIt (fun (W : World) (hb : Below w.heap.size w W) => refRoot_any n l A B n c W (Nat.le_refl _) hn9 (hD.below hb hB) hnc (Nat.le_trans hB hb.size) (hT.keep hb))
  obtain ⟨r, hr⟩ : ∃ r, r = rootD l := ⟨_, rfl⟩
  have HRL : Hid (r.length = 16) := by rw [hr]; exact rootD_len _
  rw [← hr] at HROOT ⊢
  clear hs hr hD hT
  cases whole with
  | true =>
    go_enter Tryd.func42, Tryd.ntmps42
    go_wp2
    go_ret
    exact ⟨_, rfl, ⟨rfl, .inl ⟨rfl, rfl⟩⟩, Below.refl _ _⟩
  | false =>
    rw [if_neg (by decide)]
    go_enter Tryd.func42, Tryd.ntmps42
    go_wp2_with (first
      | (go_at_call 20; refine (HROOT.out _ (Below.refl _ _)).mono ?_; rintro e w2 ⟨rfl, hb2⟩; have HB2 := hideIt hb2; clear hb2)
      | (refine wpList_buildSlice rfl 34 30 1 #[(0, .tmp 20)] rfl (r.map bv).toArray i0 (.agg (List.replicate 16 (.int .u8 0)).toArray) Tryd.underlying34 hi0 hz0 (by rw [hz1]; omega) (by rw [hz1]; omega) (by rw [hz1, Array.toList_map]; exact fill_dig _ r HRL.out (by simp)) ?_))
    go_ret
    refine ⟨_, rfl, ⟨?_, .inr ⟨w2.heap.size, 1, (r.map bv).toArray, rfl, HB2.out.size, heap_alloc_new w2 _, Nat.le_refl _, by decide, ?_, ?_⟩⟩, HB2.out.alloc HB2.out.size _⟩
    · simp [HRL.out]
    · simp [HRL.out]
    · rw [List.take_of_length_le (by simp [HRL.out])]; simp

set_option maxHeartbeats 1600000 in
set_option maxRecDepth 100000 in
theorem refSub_any (N : Nat) : ∀ (l : List (List UInt8)) (A : Option Addr) (B n c m : Nat) (whole : Bool) (w : World), n ≤ N → n ≤ 1000000000 → Ds w B A n l → n ≤ c → B ≤ w.heap.size → Tab w 0 → 1 ≤ m → m ≤ n →
    Calls Tryd.prog 42 #[.slice A n c, .int .i64 (m : Int), .bool whole] w fun e w' => ∃ v, e = .returned v ∧ w'.ownsRow w.heap.size 30 16 v (subD l m whole).length ((subD l m whole).flatten.map bv) ∧ Below w.heap.size w w' := by
  induction N with
  | zero => intro l A B n c m whole w hN hn9 hD hnc hB hT hm1 hm; omega
  | succ N ih =>
    intro l A B n c m whole w hN hn9 hD hnc hB hT hm1 hm
    by_cases hmn : m = n
    · subst hmn; exact refSub_all l A B m c whole w hn9 hD hnc hB hT
    · have h2 : 2 ≤ n := by omega
      have hsp := splitK_spec n h2
      have HSP := hideIt (fun W => refSplit_any n h2 (by omega) W)
      have hdl := hD.1
      have hpl := subD_left l m whole (by omega) (by omega)
      have hpr := subD_right l m whole (by omega) (by omega)
      rw [hdl] at hpl hpr
      obtain ⟨k, hk⟩ : ∃ k, k = splitK n := ⟨_, rfl⟩
      rw [← hk] at hsp HSP hpl hpr
      obtain ⟨A', hlo, hDs⟩ := run_lo A (n := n) (cap := c) (k := k) (by omega) hnc
      have hhi := fun W => run_hi A (n := n) (cap := c) (k := k) (by omega) W
      obtain ⟨i0, hi0, hz0, hz1, hz2⟩ := info_parts Tryd.infoDig
      have hd1 := hD.hi k (by omega)
      have hd2 := hDs w B l hD
      obtain ⟨s1, s2, s3⟩ := hsp
      have hne : ((m : Int) == (n : Int)) = false := by rw [beq_eq_false_iff_ne]; omega
      have HT := hideIt hT
      by_cases hlt : m ≤ k
      · have hz : True := trivial
        have hP := hpl hlt
        have ihp := fun (W : World) (hb : Below w.heap.size w W) => ih (l.take k) A B k c m whole W (by omega) (by omega) (hd1.below hb hB) (by omega) (Nat.le_trans hB hb.size) (hT.keep hb) hm1 hlt
        have hpn := subD_len 30 (l.take k) m whole (by rw [hd1.1]; omega)
        have HROOT := hideIt (fun (W : World) (hb : Below w.heap.size w W) => refRoot_any (n - k) (l.drop k) A' B (n - k) (c - k) W (by omega) (by omega) (hd2.below hb hB) (by omega) (Nat.le_trans hB hb.size) (hT.keep hb))
        obtain ⟨P, hPe⟩ : ∃ P, P = subD (l.take k) m whole := ⟨_, rfl⟩
        obtain ⟨r, hr⟩ : ∃ r, r = rootD (l.drop k) := ⟨_, rfl⟩
        have HRL : Hid (r.length = 16) := by rw [hr]; exact rootD_len _
        rw [← hr] at HROOT hP
        rw [← hPe] at ihp hpn hP
        have HP := hideIt hP
        have IH := hideIt ihp
        have htest : decide ((m : Int) ≤ (k : Int)) = true := by simp; omega
        clear hP hPe hr ihp hpl hpr hd1 hd2 hDs hD hT ih hk hdl
        go_enter Tryd.func42, Tryd.ntmps42
        go_wp2_with (go_at_call 40; refine (HSP.out _).mono ?_; rintro e w' ⟨rfl, rfl⟩)
        refine once_begin (fun _ => True) 9 (by kernel_rfl) ?_
        refine wpAnyU_move (oi := ⟨some 28, _, _, _, _, _⟩) 0 ?_ rfl (by kernel_rfl) (by kernel_rfl) (by kernel_rfl) (by kernel_rfl) (fun _ _ _ h => h) (by kernel_rfl) ?_ (fun _ => trivial) ?_
        rotate_left
        · intro W'; go_simp; first | done | with_reducible rfl
        try simp only [Act.put]
        try simp only [List.setIfInBounds_toArray]
        try simp only [List.set_cons_succ]
        try simp only [List.set_cons_zero]
        refine wpAnyU_move (oi := ⟨some 29, _, _, _, _, _⟩) 1 ?_ rfl (by kernel_rfl) (by kernel_rfl) (by kernel_rfl) (by kernel_rfl) (fun _ _ _ h => h) (by kernel_rfl) ?_ (fun _ => trivial) ?_
        rotate_left
        · intro W'; go_simp; first | done | with_reducible rfl
        try simp only [Act.put]
        try simp only [List.setIfInBounds_toArray]
        try simp only [List.set_cons_succ]
        try simp only [List.set_cons_zero]
        refine wpAnyU_move (oi := ⟨some 30, _, _, _, _, _⟩) 2 ?_ rfl (by kernel_rfl) (by kernel_rfl) (by kernel_rfl) (by kernel_rfl) (fun _ _ _ h => h) (by kernel_rfl) ?_ (fun _ => trivial) ?_
        rotate_left
        · intro W'; go_simp; first | done | with_reducible rfl
        try simp only [Act.put]
        try simp only [List.setIfInBounds_toArray]
        try simp only [List.set_cons_succ]
        try simp only [List.set_cons_zero]
        refine wpAnyU_move (oi := ⟨some 31, _, _, _, _, _⟩) 3 ?_ rfl (by kernel_rfl) (by kernel_rfl) (by kernel_rfl) (by kernel_rfl) (fun _ _ _ h => h) (by kernel_rfl) ?_ (fun _ => trivial) ?_
        rotate_left
        · intro W'; go_simp; first | done | with_reducible rfl
        try simp only [Act.put]
        try simp only [List.setIfInBounds_toArray]
        try simp only [List.set_cons_succ]
        try simp only [List.set_cons_zero]
        refine wpAnyU_move (oi := ⟨some 32, _, _, _, _, _⟩) 4 ?_ rfl (by kernel_rfl) (by kernel_rfl) (by kernel_rfl) (by kernel_rfl) (fun _ _ _ h => h) (by kernel_rfl) ?_ (fun _ => trivial) ?_
        rotate_left
        · intro W'; go_simp; first | done | with_reducible rfl
        try simp only [Act.put]
        try simp only [List.setIfInBounds_toArray]
        try simp only [List.set_cons_succ]
        try simp only [List.set_cons_zero]
        refine wpAnyU_move (oi := ⟨some 34, _, _, _, _, _⟩) 6 ?_ rfl (by kernel_rfl) (by kernel_rfl) (by kernel_rfl) (by kernel_rfl) (fun _ _ _ h => h) (by kernel_rfl) ?_ (fun _ => trivial) ?_
        rotate_left
        · intro W'; go_simp; first | done | with_reducible rfl
        try simp only [Act.put]
        try simp only [List.setIfInBounds_toArray]
        try simp only [List.set_cons_succ]
        try simp only [List.set_cons_zero]
        refine wpAnyU_move (oi := ⟨some 35, _, _, _, _, _⟩) 7 ?_ rfl (by kernel_rfl) (by kernel_rfl) (by kernel_rfl) (by kernel_rfl) (fun _ _ _ h => h) (by kernel_rfl) ?_ (fun _ => trivial) ?_
        rotate_left
        · intro W'; go_simp; first | done | with_reducible rfl
        try simp only [Act.put]
        try simp only [List.setIfInBounds_toArray]
        try simp only [List.set_cons_succ]
        try simp only [List.set_cons_zero]
        refine wpAnyU_move (oi := ⟨some 36, _, _, _, _, _⟩) 8 ?_ rfl (by kernel_rfl) (by kernel_rfl) (by kernel_rfl) (by kernel_rfl) (fun _ _ _ h => h) (by kernel_rfl) ?_ (fun _ => trivial) ?_
        rotate_left
        · intro W'; go_simp; first | done | with_reducible rfl
        try simp only [Act.put]
        try simp only [List.setIfInBounds_toArray]
        try simp only [List.set_cons_succ]
        try simp only [List.set_cons_zero]
        refine wpAnyU_one 5 (by kernel_rfl) rfl (fun K hK => ?_)
        go_wp2_with (go_at_call 42; refine (IH.out _ ((Below.refl _ _).drew)).mono ?_; rintro e w1 ⟨v1, rfl, hown, hb1⟩; obtain ⟨A1, c1, rfl, hc11, hc12⟩ := own_form hown; have HO1 := hideIt (own_low (base' := w.heap.size) hown (Nat.le_refl _)); have HB1 := hideIt (((Below.refl w.heap.size w).drew).trans hb1); clear hown hb1)
        refine hK _ _ (fun _ => trivial) ?_
        clear hK K
        refine once_tail (by kernel_rfl) (by kernel_rfl) (by kernel_rfl) ?_
        simp only [List.drop_succ_cons, List.drop_zero]
        go_wp2_with (first
          | (go_at_call 20; refine (HROOT.out _ HB1.out).mono ?_; rintro e w2 ⟨rfl, hb2⟩; have HB12 := hideIt hb2; clear hb2)
          | (refine wpList_buildSlice rfl 34 30 1 #[(0, .tmp 37)] rfl (r.map bv).toArray i0 (.agg (List.replicate 16 (.int .u8 0)).toArray) Tryd.underlying34 hi0 hz0 (by rw [hz1]; omega) (by rw [hz1]; omega) (by rw [hz1, Array.toList_map]; exact fill_dig _ r HRL.out (by simp)) ?_)
          | ((with_reducible refine at_append ?_); refine wpList_app2 rfl (.tmp 33) (.tmp 38) 34 rfl w.heap.size 30 i0 (.agg (List.replicate 16 (.int .u8 0)).toArray) 16 16 Tryd.underlying34 hi0 hz0 hz1 hz2 rfl (by decide) (.slice A1 P.length c1) P.length _ rfl ((own_kept HO1.out HB12.out).alloc _) (w2.heap.size + 1) _ 1 1 (r.map bv) rfl (sl_dig w2 r HRL.out) (bv_one r) (by unfold maxLen; omega) (by omega) (by have := HB1.out.size; have := HB12.out.size; simp; omega) ?_; intro v3 w3 ho3 hg3; have HO3 := hideIt ho3; have HB3 := hideIt (((HB1.out.trans (HB12.out.mono HB1.out.size)).alloc (Nat.le_trans HB1.out.size HB12.out.size) (.cells (r.map bv).toArray 30)).grown hg3 (by have := HB1.out.size; have := HB12.out.size; simp; omega) (fun j hj => (((own_kept HO1.out HB12.out).alloc (.cells (r.map bv).toArray 30)).lt j hj).1)); clear ho3 hg3))
        go_ret
        refine ⟨_, rfl, ?_, HB3.out⟩
        rw [HP.out, List.length_append, List.flatten_append, List.map_append]
        simp only [List.flatten_cons, List.flatten_nil, List.append_nil, List.length_cons, List.length_nil]
        exact HO3.out
      · have hz : True := trivial
        have hP := hpr hlt
        have ihp := fun (W : World) (hb : Below w.heap.size w W) => ih (l.drop k) A' B (n - k) (c - k) (m - k) false W (by omega) (by omega) (hd2.below hb hB) (by omega) (Nat.le_trans hB hb.size) (hT.keep hb) (by omega) (by omega)
        have hsub : ((m - k : Nat) : Int) = (m : Int) - (k : Int) := by omega
        rw [hsub] at ihp
        have hpn := subD_len 30 (l.drop k) (m - k) false (by rw [hd2.1]; omega)
        have HROOT := hideIt (fun (W : World) (hb : Below w.heap.size w W) => refRoot_any k (l.take k) A B k c W (by omega) (by omega) (hd1.below hb hB) (by omega) (Nat.le_trans hB hb.size) (hT.keep hb))
        obtain ⟨P, hPe⟩ : ∃ P, P = subD (l.drop k) (m - k) false := ⟨_, rfl⟩
        obtain ⟨r, hr⟩ : ∃ r, r = rootD (l.take k) := ⟨_, rfl⟩
        have HRL : Hid (r.length = 16) := by rw [hr]; exact rootD_len _
        rw [← hr] at HROOT hP
        rw [← hPe] at ihp hpn hP
        have HP := hideIt hP
        have IH := hideIt ihp
        have htest : decide ((m : Int) ≤ (k : Int)) = false := by simp; omega
        clear hP hPe hr ihp hpl hpr hd1 hd2 hDs hD hT ih hk hdl hsub
        go_enter Tryd.func42, Tryd.ntmps42
        go_wp2_with (go_at_call 40; refine (HSP.out _).mono ?_; rintro e w' ⟨rfl, rfl⟩)
        refine once_begin (fun _ => True) 10 (by kernel_rfl) ?_
        refine wpAnyU_move (oi := ⟨some 40, _, _, _, _, _⟩) 0 ?_ rfl (by kernel_rfl) (by kernel_rfl) (by kernel_rfl) (by kernel_rfl) (fun _ _ _ h => h) (by kernel_rfl) ?_ (fun _ => trivial) ?_
        rotate_left
        · intro W'; go_simp; first | done | with_reducible rfl
        try simp only [Act.put]
        try simp only [List.setIfInBounds_toArray]
        try simp only [List.set_cons_succ]
        try simp only [List.set_cons_zero]
        refine wpAnyU_move (oi := ⟨some 41, _, _, _, _, _⟩) 1 ?_ rfl (by kernel_rfl) (by kernel_rfl) (by kernel_rfl) (by kernel_rfl) (fun _ _ _ h => h) (by kernel_rfl) ?_ (fun _ => trivial) ?_
        rotate_left
        · intro W'; go_simp; first | done | with_reducible rfl
        try simp only [Act.put]
        try simp only [List.setIfInBounds_toArray]
        try simp only [List.set_cons_succ]
        try simp only [List.set_cons_zero]
        refine wpAnyU_move (oi := ⟨some 42, _, _, _, _, _⟩) 2 ?_ rfl (by kernel_rfl) (by kernel_rfl) (by kernel_rfl) (by kernel_rfl) (fun _ _ _ h => h) (by kernel_rfl) ?_ (fun _ => trivial) ?_
        rotate_left
        · intro W'; go_simp; first | done | with_reducible rfl
        try simp only [Act.put]
        try simp only [List.setIfInBounds_toArray]
        try simp only [List.set_cons_succ]
        try simp only [List.set_cons_zero]
        refine wpAnyU_move (oi := ⟨some 43, _, _, _, _, _⟩) 3 ?_ rfl (by kernel_rfl) (by kernel_rfl) (by kernel_rfl) (by kernel_rfl) (fun _ _ _ h => h) (by kernel_rfl) ?_ (fun _ => trivial) ?_
        rotate_left
        · intro W'; go_simp; first | done | with_reducible rfl
        try simp only [Act.put]
        try simp only [List.setIfInBounds_toArray]
        try simp only [List.set_cons_succ]
        try simp only [List.set_cons_zero]
        refine wpAnyU_move (oi := ⟨some 44, _, _, _, _, _⟩) 4 ?_ rfl (by kernel_rfl) (by kernel_rfl) (by kernel_rfl) (by kernel_rfl) (fun _ _ _ h => h) (by kernel_rfl) ?_ (fun _ => trivial) ?_
        rotate_left
        · intro W'; go_simp; first | done | with_reducible rfl
        try simp only [Act.put]
        try simp only [List.setIfInBounds_toArray]
        try simp only [List.set_cons_succ]
        try simp only [List.set_cons_zero]
        refine wpAnyU_move (oi := ⟨some 45, _, _, _, _, _⟩) 5 ?_ rfl (by kernel_rfl) (by kernel_rfl) (by kernel_rfl) (by kernel_rfl) (fun _ _ _ h => h) (by kernel_rfl) ?_ (fun _ => trivial) ?_
        rotate_left
        · intro W'; go_simp; first | done | with_reducible rfl
        try simp only [Act.put]
        try simp only [List.setIfInBounds_toArray]
        try simp only [List.set_cons_succ]
        try simp only [List.set_cons_zero]
        refine wpAnyU_move (oi := ⟨some 47, _, _, _, _, _⟩) 7 ?_ rfl (by kernel_rfl) (by kernel_rfl) (by kernel_rfl) (by kernel_rfl) (fun _ _ _ h => h) (by kernel_rfl) ?_ (fun _ => trivial) ?_
        rotate_left
        · intro W'; go_simp; first | done | with_reducible rfl
        try simp only [Act.put]
        try simp only [List.setIfInBounds_toArray]
        try simp only [List.set_cons_succ]
        try simp only [List.set_cons_zero]
        refine wpAnyU_move (oi := ⟨some 48, _, _, _, _, _⟩) 8 ?_ rfl (by kernel_rfl) (by kernel_rfl) (by kernel_rfl) (by kernel_rfl) (fun _ _ _ h => h) (by kernel_rfl) ?_ (fun _ => trivial) ?_
        rotate_left
        · intro W'; go_simp; first | done | with_reducible rfl
        try simp only [Act.put]
        try simp only [List.setIfInBounds_toArray]
        try simp only [List.set_cons_succ]
        try simp only [List.set_cons_zero]
        refine wpAnyU_move (oi := ⟨some 49, _, _, _, _, _⟩) 9 ?_ rfl (by kernel_rfl) (by kernel_rfl) (by kernel_rfl) (by kernel_rfl) (fun _ _ _ h => h) (by kernel_rfl) ?_ (fun _ => trivial) ?_
        rotate_left
        · intro W'; go_simp; first | done | with_reducible rfl
        try simp only [Act.put]
        try simp only [List.setIfInBounds_toArray]
        try simp only [List.set_cons_succ]
        try simp only [List.set_cons_zero]
        refine wpAnyU_one 6 (by kernel_rfl) rfl (fun K hK => ?_)
        go_wp2_with (go_at_call 42; refine (IH.out _ ((Below.refl _ _).drew)).mono ?_; rintro e w1 ⟨v1, rfl, hown, hb1⟩; obtain ⟨A1, c1, rfl, hc11, hc12⟩ := own_form hown; have HO1 := hideIt (own_low (base' := w.heap.size) hown (Nat.le_refl _)); have HB1 := hideIt (((Below.refl w.heap.size w).drew).trans hb1); clear hown hb1)
        refine hK _ _ (fun _ => trivial) ?_
        clear hK K
        refine once_tail (by kernel_rfl) (by kernel_rfl) (by kernel_rfl) ?_
        simp only [List.drop_succ_cons, List.drop_zero]
        go_wp2_with (first
          | (go_at_call 20; refine (HROOT.out _ HB1.out).mono ?_; rintro e w2 ⟨rfl, hb2⟩; have HB12 := hideIt hb2; clear hb2)
          | (refine wpList_buildSlice rfl 34 30 1 #[(0, .tmp 50)] rfl (r.map bv).toArray i0 (.agg (List.replicate 16 (.int .u8 0)).toArray) Tryd.underlying34 hi0 hz0 (by rw [hz1]; omega) (by rw [hz1]; omega) (by rw [hz1, Array.toList_map]; exact fill_dig _ r HRL.out (by simp)) ?_)
          | ((with_reducible refine at_append ?_); refine wpList_app2 rfl (.tmp 46) (.tmp 51) 34 rfl w.heap.size 30 i0 (.agg (List.replicate 16 (.int .u8 0)).toArray) 16 16 Tryd.underlying34 hi0 hz0 hz1 hz2 rfl (by decide) (.slice A1 P.length c1) P.length _ rfl ((own_kept HO1.out HB12.out).alloc _) (w2.heap.size + 1) _ 1 1 (r.map bv) rfl (sl_dig w2 r HRL.out) (bv_one r) (by unfold maxLen; omega) (by omega) (by have := HB1.out.size; have := HB12.out.size; simp; omega) ?_; intro v3 w3 ho3 hg3; have HO3 := hideIt ho3; have HB3 := hideIt (((HB1.out.trans (HB12.out.mono HB1.out.size)).alloc (Nat.le_trans HB1.out.size HB12.out.size) (.cells (r.map bv).toArray 30)).grown hg3 (by have := HB1.out.size; have := HB12.out.size; simp; omega) (fun j hj => (((own_kept HO1.out HB12.out).alloc (.cells (r.map bv).toArray 30)).lt j hj).1)); clear ho3 hg3))
        go_ret
        refine ⟨_, rfl, ?_, HB3.out⟩
        rw [HP.out, List.length_append, List.flatten_append, List.map_append]
        simp only [List.flatten_cons, List.flatten_nil, List.append_nil, List.length_cons, List.length_nil]
        exact HO3.out

set_option maxHeartbeats 800000 in
set_option maxRecDepth 100000 in
theorem refPP_none (A : Option Addr) (n c : Nat) (m : Int) (w : World) (hn : n ≤ 1000000000) (hm : m < 1 ∨ (n : Int) < m) :
    Calls Tryd.prog 18 #[.slice A n c, .int .i64 m] w fun e w' => e = .returned (.tuple #[.slice none 0 0, .int .i64 12]) ∧ Below w.heap.size w w' := by
  by_cases h0 : m < 1
  · clear hm
    go_enter Tryd.func18, Tryd.ntmps18
    go_wp2
    go_ret2
    exact ⟨rfl, Below.refl _ _⟩
  · have h1 : (n : Int) < m := by omega
    have h2 : decide (m < 1) = false := by simpa using h0
    have h3 : decide ((n : Int) < m) = true := by simpa using h1
    clear hm
    go_enter Tryd.func18, Tryd.ntmps18
    go_wp2
    go_ret2
    exact ⟨rfl, Below.refl _ _⟩
set_option maxHeartbeats 800000 in
set_option maxRecDepth 100000 in
theorem refPP_any (l : List (List UInt8)) (A : Option Addr) (B n c m : Nat) (w : World) (hn9 : n ≤ 1000000000) (hD : Ds w B A n l) (hnc : n ≤ c) (hB : B ≤ w.heap.size) (hT : Tab w 0) (hm1 : 1 ≤ m) (hm : m ≤ n) :
    Calls Tryd.prog 18 #[.slice A n c, .int .i64 (m : Int)] w fun e w' => ∃ v, e = .returned (.tuple #[v, .int .i64 0]) ∧ w'.ownsRow w.heap.size 30 16 v (subD l m true).length ((subD l m true).flatten.map bv) ∧ Below w.heap.size w w' := by
  have h2 : decide ((m : Int) < 1) = false := by simp; omega
  have h3 : decide ((n : Int) < (m : Int)) = false := by simp; omega
  have HS := hideIt (refSub_any n l A B n c m true w (Nat.le_refl _) hn9 hD hnc hB hT hm1 hm)
  clear hD hT
  go_enter Tryd.func18, Tryd.ntmps18
  go_wp2_with (go_at_call 42; refine HS.out.mono ?_; rintro e w1 ⟨v1, rfl, hown, hb1⟩; have HO := hideIt hown; have HB := hideIt hb1; clear hown hb1)
  go_ret2
  exact ⟨_, rfl, HO.out, HB.out⟩

end Go.Proofs.YtkjnimcapjjfdaaDoor
