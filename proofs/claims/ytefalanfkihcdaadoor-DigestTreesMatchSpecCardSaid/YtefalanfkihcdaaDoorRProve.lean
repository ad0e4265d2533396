/-
  Proofs of elements, walked: the reference's Prove.
-/
import Derived.Test.YtefalanfkihcdaaDoorProve
import Derived.Test.YtefalanfkihcdaaDoorRRoot
namespace Go.Proofs.YtefalanfkihcdaaDoor
open Go.RowKit
set_option linter.unusedVariables false

theorem sibs_in : ∀ (e low high i : Nat), high - low ≤ 2 ^ e → low ≤ high → ∀ s ∈ sibs low high i, low ≤ s.1 ∧ s.2.1 ≤ high ∧ s.1 ≤ s.2.1
  | 0, low, high, i, h, _ => by rw [sibs_one low high i (by simp at h; omega)]; simp
  | e + 1, low, high, i, h, hle => by
    by_cases h2 : 2 ≤ high - low
    · have hs := splitK_spec _ h2
      have hl := splitK_le _ e h2 h
      by_cases hi : i < low + splitK (high - low)
      · rw [sibs_left low high i h2 hi]
        intro s hs'
        rcases List.mem_append.1 hs' with h' | h'
        · have := sibs_in e low (low + splitK (high - low)) i (by omega) (by omega) s h'
          omega
        · rw [List.mem_singleton] at h'; subst h'; simp only; omega
      · rw [sibs_right low high i h2 hi]
        intro s hs'
        rcases List.mem_append.1 hs' with h' | h'
        · have := sibs_in e (low + splitK (high - low)) high i (by omega) (by omega) s h'
          omega
        · rw [List.mem_singleton] at h'; subst h'; simp only; omega
    · rw [sibs_one low high i h2]; simp
def shiftS (a : Nat) (s : Nat × Nat × Bool) : Nat × Nat × Bool := (s.1 + a, s.2.1 + a, s.2.2)
theorem sibs_shift (a : Nat) : ∀ (e low high i : Nat), high - low ≤ 2 ^ e → sibs (low + a) (high + a) (i + a) = (sibs low high i).map (shiftS a)
  | 0, low, high, i, h => by rw [sibs_one low high i (by simp at h; omega), sibs_one _ _ _ (by simp at h; omega)]; rfl
  | e + 1, low, high, i, h => by
    by_cases h2 : 2 ≤ high - low
    · have hs := splitK_spec _ h2
      have hl := splitK_le _ e h2 h
      have hd : high + a - (low + a) = high - low := by omega
      by_cases hi : i < low + splitK (high - low)
      · rw [sibs_left low high i h2 hi, sibs_left (low + a) (high + a) (i + a) (by omega) (by rw [hd]; omega), hd]
        rw [show low + a + splitK (high - low) = low + splitK (high - low) + a by omega, sibs_shift a e low _ i (by omega), List.map_append]
        rfl
      · rw [sibs_right low high i h2 hi, sibs_right (low + a) (high + a) (i + a) (by omega) (by rw [hd]; omega), hd]
        rw [show low + a + splitK (high - low) = low + splitK (high - low) + a by omega, sibs_shift a e _ high i (by omega), List.map_append]
        rfl
    · rw [sibs_one low high i h2, sibs_one _ _ _ (by omega)]; rfl
theorem proofD_one (l : List (List UInt8)) (i : Nat) (h : l.length ≤ 1) : proofD l i = [] := by
  unfold proofD; rw [sibs_one _ _ _ (by omega)]; rfl
theorem proofD_left (l : List (List UInt8)) (i k : Nat) (h : 2 ≤ l.length) (hk : k = splitK l.length) (hi : i < k) (hl : l.length ≤ 1000000000) : proofD l i = proofD (l.take k) i ++ [rootD (l.drop k)] := by
  have hs := splitK_spec _ h
  unfold proofD
  rw [sibs_left 0 l.length i (by omega) (by rw [Nat.sub_zero, ← hk]; omega), Nat.sub_zero, ← hk, Nat.zero_add, List.map_append]
  congr 1
  · rw [List.length_take, Nat.min_eq_left (by omega)]
    refine List.map_congr_left fun s hs' => ?_
    have := sibs_in 30 0 k i (by omega) (by omega) s hs'
    unfold sibD
    rw [List.drop_take, List.take_take, Nat.min_eq_left (by omega)]
  · simp only [List.map_cons, List.map_nil, sibD]
    rw [List.take_of_length_le (by rw [List.length_drop]; exact Nat.le_refl _)]
theorem proofD_right (l : List (List UInt8)) (i k : Nat) (h : 2 ≤ l.length) (hk : k = splitK l.length) (hi : k ≤ i) (hl : l.length ≤ 1000000000) : proofD l i = proofD (l.drop k) (i - k) ++ [rootD (l.take k)] := by
  have hs := splitK_spec _ h
  unfold proofD
  rw [sibs_right 0 l.length i (by omega) (by rw [Nat.sub_zero, ← hk]; omega), Nat.sub_zero, ← hk, Nat.zero_add, List.map_append]
  congr 1
  · rw [List.length_drop]
    have h1 := sibs_shift k 30 0 (l.length - k) (i - k) (by omega)
    rw [Nat.zero_add, show l.length - k + k = l.length by omega, show i - k + k = i by omega] at h1
    rw [h1, List.map_map]
    refine List.map_congr_left fun s _ => ?_
    show rootD _ = rootD _
    simp only [shiftS]
    rw [List.drop_drop, show s.2.1 + k - (s.1 + k) = s.2.1 - s.1 by omega, Nat.add_comm k s.1]

set_option maxHeartbeats 800000 in
set_option maxRecDepth 100000 in
theorem refProve_none (A : Option Addr) (n c : Nat) (i : Int) (w : World) (hn : n ≤ 1000000000) (hi : i < 0 ∨ (n : Int) ≤ i) :
    Calls Tryd.prog 16 #[.slice A n c, .int .i64 i] w fun e w' => e = .returned (.tuple #[.slice none 0 0, .int .i64 12]) ∧ Below w.heap.size w w' := by
  by_cases h0 : i < 0
  · clear hi
    go_enter Tryd.func16, Tryd.ntmps16
    go_wp2
    go_ret2
    exact ⟨rfl, Below.refl _ _⟩
  · have h1 : (n : Int) ≤ i := by omega
    have h2 : decide (i < 0) = false := by simpa using h0
    have h3 : decide ((n : Int) ≤ i) = true := by simpa using h1
    clear hi
    go_enter Tryd.func16, Tryd.ntmps16
    go_wp2
    go_ret2
    exact ⟨rfl, Below.refl _ _⟩

set_option maxHeartbeats 1600000 in
set_option maxRecDepth 100000 in
theorem refProve_any (N : Nat) : ∀ (l : List (List UInt8)) (A : Option Addr) (B n c i : Nat) (w : World), n ≤ N → n ≤ 1000000000 → Ds w B A n l → n ≤ c → B ≤ w.heap.size → Tab w 0 → i < n →
    Calls Tryd.prog 16 #[.slice A n c, .int .i64 (i : Int)] w fun e w' => ∃ v, e = .returned (.tuple #[v, .int .i64 0]) ∧ w'.ownsRow w.heap.size 30 16 v (proofD l i).length ((proofD l i).flatten.map bv) ∧ Below w.heap.size w w' := by
  induction N with
  | zero => intro l A B n c i w hN hn9 hD hnc hB hT hi; omega
  | succ N ih =>
    intro l A B n c i w hN hn9 hD hnc hB hT hi
    have h20 : decide ((i : Int) < 0) = false := by simp
    have h30 : decide ((n : Int) ≤ (i : Int)) = false := by simp; omega
    by_cases h1 : n = 1
    · subst h1
      have hp := proofD_one l i (by rw [hD.1]; exact Nat.le_refl _)
      clear hD hT ih
      go_enter Tryd.func16, Tryd.ntmps16
      go_wp2
      go_ret2
      refine ⟨_, rfl, ?_, Below.refl _ _⟩
      rw [hp]
      exact ⟨rfl, .inl ⟨rfl, rfl⟩⟩
    · have h2 : 2 ≤ n := by omega
      have hsp := splitK_spec n h2
      have HSP := hideIt (fun W => refSplit_any n h2 (by omega) W)
      have hdl := hD.1
      have hpl := proofD_left l i (splitK n) (by omega) (by rw [hdl])
      have hpr := proofD_right l i (splitK n) (by omega) (by rw [hdl])
      obtain ⟨k, hk⟩ : ∃ k, k = splitK n := ⟨_, rfl⟩
      rw [← hk] at hsp HSP hpl hpr
      obtain ⟨A', hlo, hDs⟩ := run_lo A (n := n) (cap := c) (k := k) (by omega) hnc
      have hhi := fun W => run_hi A (n := n) (cap := c) (k := k) (by omega) W
      obtain ⟨i0, hi0, hz0, hz1, hz2⟩ := info_parts Tryd.infoDig
      have hd1 := hD.hi k (by omega)
      have hd2 := hDs w B l hD
      obtain ⟨s1, s2, s3⟩ := hsp
      have HT := hideIt hT
      by_cases hlt : i < k
      · have hz : True := trivial
        have hP := hpl hlt (by omega)
        have ihp := ih (l.take k) A B k c i w (by omega) (by omega) hd1 (by omega) hB hT hlt
        have hpn := proofD_len (l.take k) i 30 (by rw [hd1.1]; omega)
        have HROOT := hideIt (fun (W : World) (hb : Below w.heap.size w W) => refRoot_any (n - k) (l.drop k) A' B (n - k) (c - k) W (by omega) (by omega) (hd2.below hb hB) (by omega) (Nat.le_trans hB hb.size) (hT.keep hb))
        obtain ⟨P, hPe⟩ : ∃ P, P = proofD (l.take k) i := ⟨_, rfl⟩
        obtain ⟨r, hr⟩ : ∃ r, r = rootD (l.drop k) := ⟨_, rfl⟩
        have HRL : Hid (r.length = 16) := by rw [hr]; exact rootD_len _
        rw [← hr] at HROOT hP
        rw [← hPe] at ihp hpn hP
        have HP := hideIt hP
        have IH := hideIt ihp
        clear hP hPe hr ihp hpl hpr hd1 hd2 hDs hD hT ih hk hdl
        go_enter Tryd.func16, Tryd.ntmps16
        go_wp2_with (first
          | (go_at_call 40; refine (HSP.out _).mono ?_; rintro e w' ⟨rfl, rfl⟩)
          | (go_at_call 16; refine IH.out.mono ?_; rintro e w1 ⟨v1, rfl, hown, hb1⟩; obtain ⟨A1, c1, rfl, hc11, hc12⟩ := own_form hown; have HO1 := hideIt hown; have HB1 := hideIt hb1; clear hown hb1)
          | (go_at_call 20; refine (HROOT.out _ HB1.out).mono ?_; rintro e w2 ⟨rfl, hb2⟩; have HB12 := hideIt hb2; clear hb2)
          | (refine wpList_buildSlice rfl 34 30 1 #[(0, .tmp 40)] rfl (r.map bv).toArray i0 (.agg (List.replicate 16 (.int .u8 0)).toArray) Tryd.underlying34 hi0 hz0 (by rw [hz1]; omega) (by rw [hz1]; omega) (by rw [hz1, Array.toList_map]; exact fill_dig _ r HRL.out (by simp)) ?_)
          | ((with_reducible refine at_append ?_); refine wpList_app2 rfl (.tmp 36) (.tmp 41) 34 rfl w.heap.size 30 i0 (.agg (List.replicate 16 (.int .u8 0)).toArray) 16 16 Tryd.underlying34 hi0 hz0 hz1 hz2 rfl (by decide) (.slice A1 P.length c1) P.length _ rfl ((own_kept HO1.out HB12.out).alloc _) (w2.heap.size + 1) _ 1 1 (r.map bv) rfl (sl_dig w2 r HRL.out) (bv_one r) (by unfold maxLen; omega) (by omega) (by have := HB1.out.size; have := HB12.out.size; simp; omega) ?_; intro v3 w3 ho3 hg3; have HO3 := hideIt ho3; have HB3 := hideIt (((HB1.out.trans (HB12.out.mono HB1.out.size)).alloc (Nat.le_trans HB1.out.size HB12.out.size) (.cells (r.map bv).toArray 30)).grown hg3 (by have := HB1.out.size; have := HB12.out.size; simp; omega) (fun j hj => (((own_kept HO1.out HB12.out).alloc (.cells (r.map bv).toArray 30)).lt j hj).1)); clear ho3 hg3))
        go_ret2
        refine ⟨_, rfl, ?_, HB3.out⟩
        rw [HP.out, List.length_append, List.flatten_append, List.map_append]
        simp only [List.flatten_cons, List.flatten_nil, List.append_nil, List.length_cons, List.length_nil]
        exact HO3.out
      · have hz : True := trivial
        have hP := hpr (by omega) (by omega)
        have ihp := ih (l.drop k) A' B (n - k) (c - k) (i - k) w (by omega) (by omega) hd2 (by omega) hB hT (by omega)
        have hsub : ((i - k : Nat) : Int) = (i : Int) - (k : Int) := by omega
        rw [hsub] at ihp
        have hpn := proofD_len (l.drop k) (i - k) 30 (by rw [hd2.1]; omega)
        have HROOT := hideIt (fun (W : World) (hb : Below w.heap.size w W) => refRoot_any k (l.take k) A B k c W (by omega) (by omega) (hd1.below hb hB) (by omega) (Nat.le_trans hB hb.size) (hT.keep hb))
        obtain ⟨P, hPe⟩ : ∃ P, P = proofD (l.drop k) (i - k) := ⟨_, rfl⟩
        obtain ⟨r, hr⟩ : ∃ r, r = rootD (l.take k) := ⟨_, rfl⟩
        have HRL : Hid (r.length = 16) := by rw [hr]; exact rootD_len _
        rw [← hr] at HROOT hP
        rw [← hPe] at ihp hpn hP
        have HP := hideIt hP
        have IH := hideIt ihp
        clear hP hPe hr ihp hpl hpr hd1 hd2 hDs hD hT ih hk hdl hsub
        go_enter Tryd.func16, Tryd.ntmps16
        go_wp2_with (first
          | (go_at_call 40; refine (HSP.out _).mono ?_; rintro e w' ⟨rfl, rfl⟩)
          | (go_at_call 16; refine IH.out.mono ?_; rintro e w1 ⟨v1, rfl, hown, hb1⟩; obtain ⟨A1, c1, rfl, hc11, hc12⟩ := own_form hown; have HO1 := hideIt hown; have HB1 := hideIt hb1; clear hown hb1)
          | (go_at_call 20; refine (HROOT.out _ HB1.out).mono ?_; rintro e w2 ⟨rfl, hb2⟩; have HB12 := hideIt hb2; clear hb2)
          | (refine wpList_buildSlice rfl 34 30 1 #[(0, .tmp 57)] rfl (r.map bv).toArray i0 (.agg (List.replicate 16 (.int .u8 0)).toArray) Tryd.underlying34 hi0 hz0 (by rw [hz1]; omega) (by rw [hz1]; omega) (by rw [hz1, Array.toList_map]; exact fill_dig _ r HRL.out (by simp)) ?_)
          | ((with_reducible refine at_append ?_); refine wpList_app2 rfl (.tmp 53) (.tmp 58) 34 rfl w.heap.size 30 i0 (.agg (List.replicate 16 (.int .u8 0)).toArray) 16 16 Tryd.underlying34 hi0 hz0 hz1 hz2 rfl (by decide) (.slice A1 P.length c1) P.length _ rfl ((own_kept HO1.out HB12.out).alloc _) (w2.heap.size + 1) _ 1 1 (r.map bv) rfl (sl_dig w2 r HRL.out) (bv_one r) (by unfold maxLen; omega) (by omega) (by have := HB1.out.size; have := HB12.out.size; simp; omega) ?_; intro v3 w3 ho3 hg3; have HO3 := hideIt ho3; have HB3 := hideIt (((HB1.out.trans (HB12.out.mono HB1.out.size)).alloc (Nat.le_trans HB1.out.size HB12.out.size) (.cells (r.map bv).toArray 30)).grown hg3 (by have := HB1.out.size; have := HB12.out.size; simp; omega) (fun j hj => (((own_kept HO1.out HB12.out).alloc (.cells (r.map bv).toArray 30)).lt j hj).1)); clear ho3 hg3))
        go_ret2
        refine ⟨_, rfl, ?_, HB3.out⟩
        rw [HP.out, List.length_append, List.flatten_append, List.map_append]
        simp only [List.flatten_cons, List.flatten_nil, List.append_nil, List.length_cons, List.length_nil]
        exact HO3.out

end Go.Proofs.YtefalanfkihcdaaDoor
