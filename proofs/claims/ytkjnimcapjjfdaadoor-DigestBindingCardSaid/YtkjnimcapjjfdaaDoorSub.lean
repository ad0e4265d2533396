/-
  Prefix proofs, walked: digest.sub, ProvePrefix.
-/
import Derived.Test.YtkjnimcapjjfdaaDoorProve
import Derived.Test.YtkjnimcapjjfdaaDoorOnce
namespace Go.Proofs.YtkjnimcapjjfdaaDoor
open Go.RowKit
set_option linter.unusedVariables false

/-- The prefix proof for the first m elements of a part. -/
def subD (l : List (List UInt8)) (m : Nat) (whole : Bool) : List (List UInt8) :=
  if h : 2 ≤ l.length ∧ m ≠ l.length then
    if m ≤ splitK l.length then subD (l.take (splitK l.length)) m whole ++ [rootD (l.drop (splitK l.length))]
    else subD (l.drop (splitK l.length)) (m - splitK l.length) false ++ [rootD (l.take (splitK l.length))]
  else if whole then [] else [rootD l]
termination_by l.length
decreasing_by
  · have := splitK_spec _ h.1; rw [List.length_take]; omega
  · have := splitK_spec _ h.1; rw [List.length_drop]; omega
theorem subD_all (l : List (List UInt8)) (whole : Bool) : subD l l.length whole = if whole then [] else [rootD l] := by
  rw [subD, dif_neg (by simp)]
theorem subD_left (l : List (List UInt8)) (m : Nat) (whole : Bool) (h : 2 ≤ l.length) (hm : m < l.length) (hk : m ≤ splitK l.length) : subD l m whole = subD (l.take (splitK l.length)) m whole ++ [rootD (l.drop (splitK l.length))] := by
  rw [subD, dif_pos ⟨h, by omega⟩, if_pos hk]
theorem subD_right (l : List (List UInt8)) (m : Nat) (whole : Bool) (h : 2 ≤ l.length) (hm : m < l.length) (hk : ¬ m ≤ splitK l.length) : subD l m whole = subD (l.drop (splitK l.length)) (m - splitK l.length) false ++ [rootD (l.take (splitK l.length))] := by
  rw [subD, dif_pos ⟨h, by omega⟩, if_neg hk]
theorem subD_len : ∀ (e : Nat) (l : List (List UInt8)) (m : Nat) (whole : Bool), l.length ≤ 2 ^ e → (subD l m whole).length ≤ e + 1
  | 0, l, m, whole, h => by
    rw [subD, dif_neg (by simp at h; omega)]
    cases whole <;> simp
  | e + 1, l, m, whole, h => by
    rw [subD]
    by_cases h2 : 2 ≤ l.length ∧ m ≠ l.length
    · have hs := splitK_spec _ h2.1
      have hl := splitK_le _ e h2.1 h
      rw [dif_pos h2]
      by_cases hk : m ≤ splitK l.length
      · rw [if_pos hk, List.length_append]
        have := subD_len e (l.take (splitK l.length)) m whole (by rw [List.length_take]; omega)
        simp only [List.length_cons, List.length_nil]; omega
      · rw [if_neg hk, List.length_append]
        have := subD_len e (l.drop (splitK l.length)) (m - splitK l.length) false (by rw [List.length_drop]; omega)
        simp only [List.length_cons, List.length_nil]; omega
    · rw [dif_neg h2]
      cases whole <;> simp
theorem subD_16 (l : List (List UInt8)) : ∀ (e m : Nat) (whole : Bool), l.length ≤ 2 ^ e → ∀ d ∈ subD l m whole, d.length = 16 := by
  intro e
  induction e generalizing l with
  | zero =>
    intro m whole h d hd
    rw [subD, dif_neg (by simp at h; omega)] at hd
    cases whole
    · simp at hd; subst hd; exact rootD_len _
    · simp at hd
  | succ e ih =>
    intro m whole h d hd
    rw [subD] at hd
    by_cases h2 : 2 ≤ l.length ∧ m ≠ l.length
    · have hs := splitK_spec _ h2.1
      have hl := splitK_le _ e h2.1 h
      rw [dif_pos h2] at hd
      by_cases hk : m ≤ splitK l.length
      · rw [if_pos hk] at hd
        rcases List.mem_append.1 hd with h' | h'
        · exact ih _ m whole (by rw [List.length_take]; omega) d h'
        · rw [List.mem_singleton] at h'; subst h'; exact rootD_len _
      · rw [if_neg hk] at hd
        rcases List.mem_append.1 hd with h' | h'
        · exact ih _ _ false (by rw [List.length_drop]; omega) d h'
        · rw [List.mem_singleton] at h'; subst h'; exact rootD_len _
    · rw [dif_neg h2] at hd
      cases whole
      · simp at hd; subst hd; exact rootD_len _
      · simp at hd

set_option maxHeartbeats 800000 in
set_option maxRecDepth 100000 in
theorem sub_all (l : List (List UInt8)) (A : Option Addr) (B n c : Nat) (whole : Bool) (w : World) (hn9 : n ≤ 1000000000) (hD : Ds w B A n l) (hnc : n ≤ c) (hB : B ≤ w.heap.size) (hT : Tab w 1) :
    Calls Tryd.prog 41 #[.slice A n c, .int .i64 (n : Int), .bool whole] w fun e w' => ∃ v, e = .returned v ∧ w'.ownsRow w.heap.size 30 16 v (subD l n whole).length ((subD l n whole).flatten.map bv) ∧ Below w.heap.size w w' := by
  have hs := subD_all l whole
  rw [hD.1] at hs
  rw [hs]
  obtain ⟨i0, hi0, hz0, hz1, hz2⟩ := info_parts Tryd.infoDig
  have HROOT := hideIt (fun (W : World) (hb : Below w.heap.size w W) => root_any n l A B n c W (Nat.le_refl _) hn9 (hD.below hb hB) hnc (Nat.le_trans hB hb.size) (hT.keep hb))
  obtain ⟨r, hr⟩ : ∃ r, r = rootD l := ⟨_, rfl⟩
  have HRL : Hid (r.length = 16) := by rw [hr]; exact rootD_len _
  rw [← hr] at HROOT ⊢
  clear hs hr hD hT
  cases whole with
  | true =>
    go_enter Tryd.func41, Tryd.ntmps41
    go_wp2
    go_ret
    exact ⟨_, rfl, own_empty w 30 16, below_new w _⟩
  | false =>
    rw [if_neg (by decide)]
    go_enter Tryd.func41, Tryd.ntmps41
    go_wp2_with (first
      | (go_at_call 19; refine (HROOT.out _ (Below.refl _ _)).mono ?_; rintro e w2 ⟨rfl, hb2⟩; have HB2 := hideIt hb2; clear hb2)
      | (refine wpList_buildSlice rfl 34 30 1 #[(0, .tmp 15)] rfl (r.map bv).toArray i0 (.agg (List.replicate 16 (.int .u8 0)).toArray) Tryd.underlying34 hi0 hz0 (by rw [hz1]; omega) (by rw [hz1]; omega) (by rw [hz1, Array.toList_map]; exact fill_dig _ r HRL.out (by simp)) ?_))
    go_ret
    refine ⟨_, rfl, ⟨?_, .inr ⟨w2.heap.size, 1, (r.map bv).toArray, rfl, HB2.out.size, heap_alloc_new w2 _, Nat.le_refl _, by decide, ?_, ?_⟩⟩, HB2.out.alloc HB2.out.size _⟩
    · simp [HRL.out]
    · simp [HRL.out]
    · rw [List.take_of_length_le (by simp [HRL.out])]; simp

set_option maxHeartbeats 1600000 in
set_option maxRecDepth 100000 in
theorem sub_any (N : Nat) : ∀ (l : List (List UInt8)) (A : Option Addr) (B n c m : Nat) (whole : Bool) (w : World), n ≤ N → n ≤ 1000000000 → Ds w B A n l → n ≤ c → B ≤ w.heap.size → Tab w 1 → 1 ≤ m → m ≤ n →
    Calls Tryd.prog 41 #[.slice A n c, .int .i64 (m : Int), .bool whole] w fun e w' => ∃ v, e = .returned v ∧ w'.ownsRow w.heap.size 30 16 v (subD l m whole).length ((subD l m whole).flatten.map bv) ∧ Below w.heap.size w w' := by
  induction N with
  | zero => intro l A B n c m whole w hN hn9 hD hnc hB hT hm1 hm; omega
  | succ N ih =>
    intro l A B n c m whole w hN hn9 hD hnc hB hT hm1 hm
    by_cases hmn : m = n
    · subst hmn; exact sub_all l A B m c whole w hn9 hD hnc hB hT
    · have h2 : 2 ≤ n := by omega
      have hsp := splitK_spec n h2
      have HSP := hideIt (fun W => split_any n h2 (by omega) W)
      have hdl := hD.1
      have hpl := subD_left l m whole (by omega) (by omega)
      have hpr := subD_right l m whole (by omega) (by omega)
      rw [hdl] at hpl hpr
      obtain ⟨k, hk⟩ : ∃ k, k = splitK n := ⟨_, rfl⟩
      rw [← hk] at hsp HSP hpl hpr
      obtain ⟨A', hlo, hDs⟩ := run_lo A (n := n) (cap := c) (k := k) (by omega) hnc
      have hhi := fun W => run_hi A (n := n) (cap := c) (k := k) (by omega) W
      obtain ⟨i0, hi0, hz0, hz1, hz2⟩ := info_parts Tryd.infoDig
      have hd1 := hD.hi k (by omega)
      have hd2 := hDs w B l hD
      obtain ⟨s1, s2, s3⟩ := hsp
      have hne : ((m : Int) == (n : Int)) = false := by rw [beq_eq_false_iff_ne]; omega
      have HT := hideIt hT
      by_cases hlt : m ≤ k
      · have hz : True := trivial
        have hP := hpl hlt
        have ihp := fun (W : World) (hb : Below w.heap.size w W) => ih (l.take k) A B k c m whole W (by omega) (by omega) (hd1.below hb hB) (by omega) (Nat.le_trans hB hb.size) (hT.keep hb) hm1 hlt
        have hpn := subD_len 30 (l.take k) m whole (by rw [hd1.1]; omega)
        have HROOT := hideIt (fun (W : World) (hb : Below w.heap.size w W) => root_any (n - k) (l.drop k) A' B (n - k) (c - k) W (by omega) (by omega) (hd2.below hb hB) (by omega) (Nat.le_trans hB hb.size) (hT.keep hb))
        obtain ⟨P, hPe⟩ : ∃ P, P = subD (l.take k) m whole := ⟨_, rfl⟩
        obtain ⟨r, hr⟩ : ∃ r, r = rootD (l.drop k) := ⟨_, rfl⟩
        have HRL : Hid (r.length = 16) := by rw [hr]; exact rootD_len _
        rw [← hr] at HROOT hP
        rw [← hPe] at ihp hpn hP
        have HP := hideIt hP
        have IH := hideIt ihp
        have htest : decide ((m : Int) ≤ (k : Int)) = true := by simp; omega
        clear hP hPe hr ihp hpl hpr hd1 hd2 hDs hD hT ih hk hdl
        go_enter Tryd.func41, Tryd.ntmps41
        go_wp2_with (go_at_call 44; refine (HSP.out _).mono ?_; rintro e w' ⟨rfl, rfl⟩)
        refine once_begin (fun _ => True) 9 (by kernel_rfl) ?_
        refine wpAnyU_move (oi := ⟨some 23, _, _, _, _, _⟩) 0 ?_ rfl (by kernel_rfl) (by kernel_rfl) (by kernel_rfl) (by kernel_rfl) (fun _ _ _ h => h) (by kernel_rfl) ?_ (fun _ => trivial) ?_
        rotate_left
        · intro W'; go_simp; first | done | with_reducible rfl
        try simp only [Act.put]
        try simp only [List.setIfInBounds_toArray]
        try simp only [List.set_cons_succ]
        try simp only [List.set_cons_zero]
        refine wpAnyU_move (oi := ⟨some 24, _, _, _, _, _⟩) 1 ?_ rfl (by kernel_rfl) (by kernel_rfl) (by kernel_rfl) (by kernel_rfl) (fun _ _ _ h => h) (by kernel_rfl) ?_ (fun _ => trivial) ?_
        rotate_left
        · intro W'; go_simp; first | done | with_reducible rfl
        try simp only [Act.put]
        try simp only [List.setIfInBounds_toArray]
        try simp only [List.set_cons_succ]
        try simp only [List.set_cons_zero]
        refine wpAnyU_move (oi := ⟨some 25, _, _, _, _, _⟩) 2 ?_ rfl (by kernel_rfl) (by kernel_rfl) (by kernel_rfl) (by kernel_rfl) (fun _ _ _ h => h) (by kernel_rfl) ?_ (fun _ => trivial) ?_
        rotate_left
        · intro W'; go_simp; first | done | with_reducible rfl
        try simp only [Act.put]
        try simp only [List.setIfInBounds_toArray]
        try simp only [List.set_cons_succ]
        try simp only [List.set_cons_zero]
        refine wpAnyU_move (oi := ⟨some 26, _, _, _, _, _⟩) 3 ?_ rfl (by kernel_rfl) (by kernel_rfl) (by kernel_rfl) (by kernel_rfl) (fun _ _ _ h => h) (by kernel_rfl) ?_ (fun _ => trivial) ?_
        rotate_left
        · intro W'; go_simp; first | done | with_reducible rfl
        try simp only [Act.put]
        try simp only [List.setIfInBounds_toArray]
        try simp only [List.set_cons_succ]
        try simp only [List.set_cons_zero]
        refine wpAnyU_move (oi := ⟨some 27, _, _, _, _, _⟩) 4 ?_ rfl (by kernel_rfl) (by kernel_rfl) (by kernel_rfl) (by kernel_rfl) (fun _ _ _ h => h) (by kernel_rfl) ?_ (fun _ => trivial) ?_
        rotate_left
        · intro W'; go_simp; first | done | with_reducible rfl
        try simp only [Act.put]
        try simp only [List.setIfInBounds_toArray]
        try simp only [List.set_cons_succ]
        try simp only [List.set_cons_zero]
        refine wpAnyU_move (oi := ⟨some 29, _, _, _, _, _⟩) 6 ?_ rfl (by kernel_rfl) (by kernel_rfl) (by kernel_rfl) (by kernel_rfl) (fun _ _ _ h => h) (by kernel_rfl) ?_ (fun _ => trivial) ?_
        rotate_left
        · intro W'; go_simp; first | done | with_reducible rfl
        try simp only [Act.put]
        try simp only [List.setIfInBounds_toArray]
        try simp only [List.set_cons_succ]
        try simp only [List.set_cons_zero]
        refine wpAnyU_move (oi := ⟨some 30, _, _, _, _, _⟩) 7 ?_ rfl (by kernel_rfl) (by kernel_rfl) (by kernel_rfl) (by kernel_rfl) (fun _ _ _ h => h) (by kernel_rfl) ?_ (fun _ => trivial) ?_
        rotate_left
        · intro W'; go_simp; first | done | with_reducible rfl
        try simp only [Act.put]
        try simp only [List.setIfInBounds_toArray]
        try simp only [List.set_cons_succ]
        try simp only [List.set_cons_zero]
        refine wpAnyU_move (oi := ⟨some 31, _, _, _, _, _⟩) 8 ?_ rfl (by kernel_rfl) (by kernel_rfl) (by kernel_rfl) (by kernel_rfl) (fun _ _ _ h => h) (by kernel_rfl) ?_ (fun _ => trivial) ?_
        rotate_left
        · intro W'; go_simp; first | done | with_reducible rfl
        try simp only [Act.put]
        try simp only [List.setIfInBounds_toArray]
        try simp only [List.set_cons_succ]
        try simp only [List.set_cons_zero]
        refine wpAnyU_one 5 (by kernel_rfl) rfl (fun K hK => ?_)
        go_wp2_with (go_at_call 41; refine (IH.out _ ((Below.refl _ _).drew)).mono ?_; rintro e w1 ⟨v1, rfl, hown, hb1⟩; obtain ⟨A1, c1, rfl, hc11, hc12⟩ := own_form hown; have HO1 := hideIt (own_low (base' := w.heap.size) hown (Nat.le_refl _)); have HB1 := hideIt (((Below.refl w.heap.size w).drew).trans hb1); clear hown hb1)
        refine hK _ _ (fun _ => trivial) ?_
        clear hK K
        refine once_tail (by kernel_rfl) (by kernel_rfl) (by kernel_rfl) ?_
        simp only [List.drop_succ_cons, List.drop_zero]
        go_wp2_with (first
          | (go_at_call 19; refine (HROOT.out _ HB1.out).mono ?_; rintro e w2 ⟨rfl, hb2⟩; have HB12 := hideIt hb2; clear hb2)
          | (refine wpList_buildSlice rfl 34 30 1 #[(0, .tmp 32)] rfl (r.map bv).toArray i0 (.agg (List.replicate 16 (.int .u8 0)).toArray) Tryd.underlying34 hi0 hz0 (by rw [hz1]; omega) (by rw [hz1]; omega) (by rw [hz1, Array.toList_map]; exact fill_dig _ r HRL.out (by simp)) ?_)
          | ((with_reducible refine at_append ?_); refine wpList_app2 rfl (.tmp 28) (.tmp 33) 34 rfl w.heap.size 30 i0 (.agg (List.replicate 16 (.int .u8 0)).toArray) 16 16 Tryd.underlying34 hi0 hz0 hz1 hz2 rfl (by decide) (.slice A1 P.length c1) P.length _ rfl ((own_kept HO1.out HB12.out).alloc _) (w2.heap.size + 1) _ 1 1 (r.map bv) rfl (sl_dig w2 r HRL.out) (bv_one r) (by unfold maxLen; omega) (by omega) (by have := HB1.out.size; have := HB12.out.size; simp; omega) ?_; intro v3 w3 ho3 hg3; have HO3 := hideIt ho3; have HB3 := hideIt (((HB1.out.trans (HB12.out.mono HB1.out.size)).alloc (Nat.le_trans HB1.out.size HB12.out.size) (.cells (r.map bv).toArray 30)).grown hg3 (by have := HB1.out.size; have := HB12.out.size; simp; omega) (fun j hj => (((own_kept HO1.out HB12.out).alloc (.cells (r.map bv).toArray 30)).lt j hj).1)); clear ho3 hg3))
        go_ret
        refine ⟨_, rfl, ?_, HB3.out⟩
        rw [HP.out, List.length_append, List.flatten_append, List.map_append]
        simp only [List.flatten_cons, List.flatten_nil, List.append_nil, List.length_cons, List.length_nil]
        exact HO3.out
      · have hz : True := trivial
        have hP := hpr hlt
        have ihp := fun (W : World) (hb : Below w.heap.size w W) => ih (l.drop k) A' B (n - k) (c - k) (m - k) false W (by omega) (by omega) (hd2.below hb hB) (by omega) (Nat.le_trans hB hb.size) (hT.keep hb) (by omega) (by omega)
        have hsub : ((m - k : Nat) : Int) = (m : Int) - (k : Int) := by omega
        rw [hsub] at ihp
        have hpn := subD_len 30 (l.drop k) (m - k) false (by rw [hd2.1]; omega)
        have HROOT := hideIt (fun (W : World) (hb : Below w.heap.size w W) => root_any k (l.take k) A B k c W (by omega) (by omega) (hd1.below hb hB) (by omega) (Nat.le_trans hB hb.size) (hT.keep hb))
        obtain ⟨P, hPe⟩ : ∃ P, P = subD (l.drop k) (m - k) false := ⟨_, rfl⟩
        obtain ⟨r, hr⟩ : ∃ r, r = rootD (l.take k) := ⟨_, rfl⟩
        have HRL : Hid (r.length = 16) := by rw [hr]; exact rootD_len _
        rw [← hr] at HROOT hP
        rw [← hPe] at ihp hpn hP
        have HP := hideIt hP
        have IH := hideIt ihp
        have htest : decide ((m : Int) ≤ (k : Int)) = false := by simp; omega
        clear hP hPe hr ihp hpl hpr hd1 hd2 hDs hD hT ih hk hdl hsub
        go_enter Tryd.func41, Tryd.ntmps41
        go_wp2_with (go_at_call 44; refine (HSP.out _).mono ?_; rintro e w' ⟨rfl, rfl⟩)
        refine once_begin (fun _ => True) 10 (by kernel_rfl) ?_
        refine wpAnyU_move (oi := ⟨some 35, _, _, _, _, _⟩) 0 ?_ rfl (by kernel_rfl) (by kernel_rfl) (by kernel_rfl) (by kernel_rfl) (fun _ _ _ h => h) (by kernel_rfl) ?_ (fun _ => trivial) ?_
        rotate_left
        · intro W'; go_simp; first | done | with_reducible rfl
        try simp only [Act.put]
        try simp only [List.setIfInBounds_toArray]
        try simp only [List.set_cons_succ]
        try simp only [List.set_cons_zero]
        refine wpAnyU_move (oi := ⟨some 36, _, _, _, _, _⟩) 1 ?_ rfl (by kernel_rfl) (by kernel_rfl) (by kernel_rfl) (by kernel_rfl) (fun _ _ _ h => h) (by kernel_rfl) ?_ (fun _ => trivial) ?_
        rotate_left
        · intro W'; go_simp; first | done | with_reducible rfl
        try simp only [Act.put]
        try simp only [List.setIfInBounds_toArray]
        try simp only [List.set_cons_succ]
        try simp only [List.set_cons_zero]
        refine wpAnyU_move (oi := ⟨some 37, _, _, _, _, _⟩) 2 ?_ rfl (by kernel_rfl) (by kernel_rfl) (by kernel_rfl) (by kernel_rfl) (fun _ _ _ h => h) (by kernel_rfl) ?_ (fun _ => trivial) ?_
        rotate_left
        · intro W'; go_simp; first | done | with_reducible rfl
        try simp only [Act.put]
        try simp only [List.setIfInBounds_toArray]
        try simp only [List.set_cons_succ]
        try simp only [List.set_cons_zero]
        refine wpAnyU_move (oi := ⟨some 38, _, _, _, _, _⟩) 3 ?_ rfl (by kernel_rfl) (by kernel_rfl) (by kernel_rfl) (by kernel_rfl) (fun _ _ _ h => h) (by kernel_rfl) ?_ (fun _ => trivial) ?_
        rotate_left
        · intro W'; go_simp; first | done | with_reducible rfl
        try simp only [Act.put]
        try simp only [List.setIfInBounds_toArray]
        try simp only [List.set_cons_succ]
        try simp only [List.set_cons_zero]
        refine wpAnyU_move (oi := ⟨some 39, _, _, _, _, _⟩) 4 ?_ rfl (by kernel_rfl) (by kernel_rfl) (by kernel_rfl) (by kernel_rfl) (fun _ _ _ h => h) (by kernel_rfl) ?_ (fun _ => trivial) ?_
        rotate_left
        · intro W'; go_simp; first | done | with_reducible rfl
        try simp only [Act.put]
        try simp only [List.setIfInBounds_toArray]
        try simp only [List.set_cons_succ]
        try simp only [List.set_cons_zero]
        refine wpAnyU_move (oi := ⟨some 40, _, _, _, _, _⟩) 5 ?_ rfl (by kernel_rfl) (by kernel_rfl) (by kernel_rfl) (by kernel_rfl) (fun _ _ _ h => h) (by kernel_rfl) ?_ (fun _ => trivial) ?_
        rotate_left
        · intro W'; go_simp; first | done | with_reducible rfl
        try simp only [Act.put]
        try simp only [List.setIfInBounds_toArray]
        try simp only [List.set_cons_succ]
        try simp only [List.set_cons_zero]
        refine wpAnyU_move (oi := ⟨some 42, _, _, _, _, _⟩) 7 ?_ rfl (by kernel_rfl) (by kernel_rfl) (by kernel_rfl) (by kernel_rfl) (fun _ _ _ h => h) (by kernel_rfl) ?_ (fun _ => trivial) ?_
        rotate_left
        · intro W'; go_simp; first | done | with_reducible rfl
        try simp only [Act.put]
        try simp only [List.setIfInBounds_toArray]
        try simp only [List.set_cons_succ]
        try simp only [List.set_cons_zero]
        refine wpAnyU_move (oi := ⟨some 43, _, _, _, _, _⟩) 8 ?_ rfl (by kernel_rfl) (by kernel_rfl) (by kernel_rfl) (by kernel_rfl) (fun _ _ _ h => h) (by kernel_rfl) ?_ (fun _ => trivial) ?_
        rotate_left
        · intro W'; go_simp; first | done | with_reducible rfl
        try simp only [Act.put]
        try simp only [List.setIfInBounds_toArray]
        try simp only [List.set_cons_succ]
        try simp only [List.set_cons_zero]
        refine wpAnyU_move (oi := ⟨some 44, _, _, _, _, _⟩) 9 ?_ rfl (by kernel_rfl) (by kernel_rfl) (by kernel_rfl) (by kernel_rfl) (fun _ _ _ h => h) (by kernel_rfl) ?_ (fun _ => trivial) ?_
        rotate_left
        · intro W'; go_simp; first | done | with_reducible rfl
        try simp only [Act.put]
        try simp only [List.setIfInBounds_toArray]
        try simp only [List.set_cons_succ]
        try simp only [List.set_cons_zero]
        refine wpAnyU_one 6 (by kernel_rfl) rfl (fun K hK => ?_)
        go_wp2_with (go_at_call 41; refine (IH.out _ ((Below.refl _ _).drew)).mono ?_; rintro e w1 ⟨v1, rfl, hown, hb1⟩; obtain ⟨A1, c1, rfl, hc11, hc12⟩ := own_form hown; have HO1 := hideIt (own_low (base' := w.heap.size) hown (Nat.le_refl _)); have HB1 := hideIt (((Below.refl w.heap.size w).drew).trans hb1); clear hown hb1)
        refine hK _ _ (fun _ => trivial) ?_
        clear hK K
        refine once_tail (by kernel_rfl) (by kernel_rfl) (by kernel_rfl) ?_
        simp only [List.drop_succ_cons, List.drop_zero]
        go_wp2_with (first
          | (go_at_call 19; refine (HROOT.out _ HB1.out).mono ?_; rintro e w2 ⟨rfl, hb2⟩; have HB12 := hideIt hb2; clear hb2)
          | (refine wpList_buildSlice rfl 34 30 1 #[(0, .tmp 45)] rfl (r.map bv).toArray i0 (.agg (List.replicate 16 (.int .u8 0)).toArray) Tryd.underlying34 hi0 hz0 (by rw [hz1]; omega) (by rw [hz1]; omega) (by rw [hz1, Array.toList_map]; exact fill_dig _ r HRL.out (by simp)) ?_)
          | ((with_reducible refine at_append ?_); refine wpList_app2 rfl (.tmp 41) (.tmp 46) 34 rfl w.heap.size 30 i0 (.agg (List.replicate 16 (.int .u8 0)).toArray) 16 16 Tryd.underlying34 hi0 hz0 hz1 hz2 rfl (by decide) (.slice A1 P.length c1) P.length _ rfl ((own_kept HO1.out HB12.out).alloc _) (w2.heap.size + 1) _ 1 1 (r.map bv) rfl (sl_dig w2 r HRL.out) (bv_one r) (by unfold maxLen; omega) (by omega) (by have := HB1.out.size; have := HB12.out.size; simp; omega) ?_; intro v3 w3 ho3 hg3; have HO3 := hideIt ho3; have HB3 := hideIt (((HB1.out.trans (HB12.out.mono HB1.out.size)).alloc (Nat.le_trans HB1.out.size HB12.out.size) (.cells (r.map bv).toArray 30)).grown hg3 (by have := HB1.out.size; have := HB12.out.size; simp; omega) (fun j hj => (((own_kept HO1.out HB12.out).alloc (.cells (r.map bv).toArray 30)).lt j hj).1)); clear ho3 hg3))
        go_ret
        refine ⟨_, rfl, ?_, HB3.out⟩
        rw [HP.out, List.length_append, List.flatten_append, List.map_append]
        simp only [List.flatten_cons, List.flatten_nil, List.append_nil, List.length_cons, List.length_nil]
        exact HO3.out

set_option maxHeartbeats 800000 in
set_option maxRecDepth 100000 in
theorem pp_none (A : Option Addr) (n c : Nat) (m : Int) (w : World) (hn : n ≤ 1000000000) (hm : m < 1 ∨ (n : Int) < m) :
    Calls Tryd.prog 17 #[.slice A n c, .int .i64 m] w fun e w' => e = .returned (.tuple #[.slice none 0 0, .int .i64 12]) ∧ Below w.heap.size w w' := by
  by_cases h0 : m < 1
  · clear hm
    go_enter Tryd.func17, Tryd.ntmps17
    go_wp2
    go_ret2
    exact ⟨rfl, Below.refl _ _⟩
  · have h1 : (n : Int) < m := by omega
    have h2 : decide (m < 1) = false := by simpa using h0
    have h3 : decide ((n : Int) < m) = true := by simpa using h1
    clear hm
    go_enter Tryd.func17, Tryd.ntmps17
    go_wp2
    go_ret2
    exact ⟨rfl, Below.refl _ _⟩
set_option maxHeartbeats 800000 in
set_option maxRecDepth 100000 in
theorem pp_any (l : List (List UInt8)) (A : Option Addr) (B n c m : Nat) (w : World) (hn9 : n ≤ 1000000000) (hD : Ds w B A n l) (hnc : n ≤ c) (hB : B ≤ w.heap.size) (hT : Tab w 1) (hm1 : 1 ≤ m) (hm : m ≤ n) :
    Calls Tryd.prog 17 #[.slice A n c, .int .i64 (m : Int)] w fun e w' => ∃ v, e = .returned (.tuple #[v, .int .i64 0]) ∧ w'.ownsRow w.heap.size 30 16 v (subD l m true).length ((subD l m true).flatten.map bv) ∧ Below w.heap.size w w' := by
  have h2 : decide ((m : Int) < 1) = false := by simp; omega
  have h3 : decide ((n : Int) < (m : Int)) = false := by simp; omega
  have HS := hideIt (sub_any n l A B n c m true w (Nat.le_refl _) hn9 hD hnc hB hT hm1 hm)
  clear hD hT
  go_enter Tryd.func17, Tryd.ntmps17
  go_wp2_with (go_at_call 41; refine HS.out.mono ?_; rintro e w1 ⟨v1, rfl, hown, hb1⟩; have HO := hideIt hown; have HB := hideIt hb1; clear hown hb1)
  go_ret2
  exact ⟨_, rfl, HO.out, HB.out⟩

end Go.Proofs.YtkjnimcapjjfdaaDoor
