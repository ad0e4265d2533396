/-
  The siblings of a path, walked: digest.walk with the closures that Prove and climb pass to it.
-/
import Derived.Test.YtkjnimcapjjfdaaDoorRoot
namespace Go.Proofs.YtkjnimcapjjfdaaDoor
open Go.RowKit
set_option linter.unusedVariables false

/-- The siblings of the path of index i in the list from low to high-1: bounds, and whether it precedes the path's part; the one nearest to the element first. -/
def sibs (low high i : Nat) : List (Nat × Nat × Bool) :=
  if h : 2 ≤ high - low then
    if i < low + splitK (high - low) then sibs low (low + splitK (high - low)) i ++ [(low + splitK (high - low), high, false)]
    else sibs (low + splitK (high - low)) high i ++ [(low, low + splitK (high - low), true)]
  else []
termination_by high - low
decreasing_by
  · have := splitK_spec _ h; omega
  · have := splitK_spec _ h; omega
theorem sibs_one (low high i : Nat) (h : ¬ 2 ≤ high - low) : sibs low high i = [] := by rw [sibs, dif_neg h]
theorem sibs_left (low high i : Nat) (h : 2 ≤ high - low) (hi : i < low + splitK (high - low)) : sibs low high i = sibs low (low + splitK (high - low)) i ++ [(low + splitK (high - low), high, false)] := by
  rw [sibs, dif_pos h, if_pos hi]
theorem sibs_right (low high i : Nat) (h : 2 ≤ high - low) (hi : ¬ i < low + splitK (high - low)) : sibs low high i = sibs (low + splitK (high - low)) high i ++ [(low, low + splitK (high - low), true)] := by
  rw [sibs, dif_pos h, if_neg hi]
theorem splitK_le (n e : Nat) (h : 2 ≤ n) (hn : n ≤ 2 ^ (e + 1)) : splitK n ≤ 2 ^ e := by
  unfold splitK
  refine Nat.pow_le_pow_right (by omega) ?_
  have : Nat.log2 (n - 1) < e + 1 := (Nat.log2_lt (by omega)).2 (by omega)
  omega
theorem sibs_le : ∀ (e low high i : Nat), high - low ≤ 2 ^ e → (sibs low high i).length ≤ e
  | 0, low, high, i, h => by rw [sibs_one low high i (by simp at h; omega)]; simp
  | e + 1, low, high, i, h => by
    by_cases h2 : 2 ≤ high - low
    · have hs := splitK_spec _ h2
      have hl := splitK_le _ e h2 h
      by_cases hi : i < low + splitK (high - low)
      · rw [sibs_left low high i h2 hi, List.length_append]
        have := sibs_le e low (low + splitK (high - low)) i (by omega)
        simp only [List.length_cons, List.length_nil]; omega
      · rw [sibs_right low high i h2 hi, List.length_append]
        have := sibs_le e (low + splitK (high - low)) high i (by omega)
        simp only [List.length_cons, List.length_nil]; omega
    · rw [sibs_one low high i h2]; simp

set_option maxHeartbeats 400000 in
set_option maxRecDepth 100000 in
theorem walk_one (low high i : Nat) (fv : Value) (hone : high - low = 1) (h1 : low < high) (h4 : high ≤ 9223372036854775807) (w : World) :
    Calls Tryd.prog 38 #[.int .i64 (low : Int), .int .i64 (high : Int), .int .i64 (i : Int), fv] w fun e w' => e = .returned (.tuple #[]) ∧ w' = w := by
  have ht : ((high : Int) - (low : Int) == 1) = true := by rw [beq_iff_eq]; omega
  clear hone
  go_enter Tryd.func38, Tryd.ntmps38
  go_wp2
  first | go_end0 | refine bodyPost_ret (results_none rfl _ _ _) rfl ?_
  exact ⟨rfl, rfl⟩

set_option maxHeartbeats 800000 in
set_option maxRecDepth 100000 in
theorem walkP_any (I : List (Nat × Nat × Bool) → World → Prop) (g0 : Nat) (g1 : Nat) (top M : Nat) (htop : top ≤ 9223372036854775807)
    (hI : ∀ (done : List (Nat × Nat × Bool)) (lo hi : Nat) (b : Bool) (W : World), lo < hi → hi ≤ top → done.length + 1 ≤ M → I done W →
      Calls Tryd.prog 39 #[.int .i64 (lo : Int), .int .i64 (hi : Int), .bool b, .pointer (some ⟨g0, 0, none⟩), .pointer (some ⟨g1, 0, none⟩)] W fun e w' => e = .returned (.tuple #[]) ∧ I (done ++ [(lo, hi, b)]) w')
    (N : Nat) : ∀ (low high i : Nat) (done : List (Nat × Nat × Bool)) (w : World), high - low ≤ 2 ^ N → done.length + N ≤ M → low ≤ i → i < high → high ≤ top → I done w →
    Calls Tryd.prog 38 #[.int .i64 (low : Int), .int .i64 (high : Int), .int .i64 (i : Int), .func (.func 39) #[] #[.pointer (some ⟨g0, 0, none⟩), .pointer (some ⟨g1, 0, none⟩)]] w fun e w' => e = .returned (.tuple #[]) ∧ I (done ++ sibs low high i) w' := by
  induction N with
  | zero =>
    intro low high i done w h1 h0 h2 h3 h4 hw
    rw [sibs_one low high i (by simp at h1; omega), List.append_nil]
    refine (walk_one low high i _ (by simp at h1; omega) (by omega) (by omega) w).mono ?_
    rintro e w' ⟨rfl, rfl⟩
    exact ⟨rfl, hw⟩
  | succ N ih =>
    intro low high i done w h1 h0 h2 h3 h4 hw
    have HW := hideIt hw
    by_cases hone : high - low = 1
    · rw [sibs_one low high i (by omega), List.append_nil]
      refine (walk_one low high i _ (by omega) (by omega) (by omega) w).mono ?_
      rintro e w' ⟨rfl, rfl⟩
      exact ⟨rfl, hw⟩
    · have h5 : 2 ≤ high - low := by omega
      have hsp := splitK_spec _ h5
      have HSP := hideIt (fun W => split_any (high - low) h5 (by omega) W)
      have hkl := splitK_le _ N h5 h1
      have hsub : ((high - low : Nat) : Int) = (high : Int) - (low : Int) := by omega
      rw [hsub] at HSP
      have hL := sibs_left low high i h5
      have hR := sibs_right low high i h5
      obtain ⟨k, hk⟩ : ∃ k, k = splitK (high - low) := ⟨_, rfl⟩
      rw [← hk] at hsp HSP hL hR hkl
      have ht : ((high : Int) - (low : Int) == 1) = false := by rw [beq_eq_false_iff_ne]; omega
      obtain ⟨m, hm⟩ : ∃ m, m = low + k := ⟨_, rfl⟩
      have hmi : (low : Int) + (k : Int) = (m : Int) := by omega
      rw [← hm] at hL hR
      obtain ⟨s1, s2, s3⟩ := hsp
      have hm1 : low < m := by omega
      have hm2 : m < high := by omega
      have HI := hideIt hI
      by_cases hi : i < m
      · have ih1 := hideIt (ih low m i done w (by omega) (by omega) h2 hi (by omega) hw)
        rw [hL hi, ← List.append_assoc]
        have hd1l := sibs_le N low m i (by omega)
        obtain ⟨d1, hd1⟩ : ∃ d, d = done ++ sibs low m i := ⟨_, rfl⟩
        have hdl : d1.length + 1 ≤ M := by rw [hd1, List.length_append]; omega
        rw [← hd1] at ih1 ⊢
        have HMI := hideIt hmi
        have hii : ((i : Int) < (m : Int)) := by omega
        clear hw ih hI hL hR hk hm hd1 hsub h1 h0 hkl hd1l
        go_enter Tryd.func38, Tryd.ntmps38
        go_wp2_with (first
          | (go_at_call 44; refine (HSP.out _).mono ?_; rintro e w' ⟨rfl, rfl⟩)
          | (go_at_call 38; refine ih1.out.mono ?_; rintro e w1 ⟨rfl, hw1⟩; have HW1 := hideIt hw1; clear hw1)
          | (go_at_call 39; refine (HI.out d1 m high false w1 hm2 h4 hdl HW1.out).mono ?_; rintro e w2 ⟨rfl, hw2⟩; have HW2 := hideIt hw2; clear hw2))
        first | go_end0 | refine bodyPost_ret (results_none rfl _ _ _) rfl ?_
        exact ⟨rfl, HW2.out⟩
      · have ih1 := hideIt (ih m high i done w (by omega) (by omega) (by omega) h3 h4 hw)
        rw [hR hi, ← List.append_assoc]
        have hd1l := sibs_le N m high i (by omega)
        obtain ⟨d1, hd1⟩ : ∃ d, d = done ++ sibs m high i := ⟨_, rfl⟩
        have hdl : d1.length + 1 ≤ M := by rw [hd1, List.length_append]; omega
        rw [← hd1] at ih1 ⊢
        have HMI := hideIt hmi
        have hii : ¬ ((i : Int) < (m : Int)) := by omega
        clear hw ih hI hL hR hk hm hd1 hsub h1 h0 hkl hd1l
        go_enter Tryd.func38, Tryd.ntmps38
        go_wp2_with (first
          | (go_at_call 44; refine (HSP.out _).mono ?_; rintro e w' ⟨rfl, rfl⟩)
          | (go_at_call 38; refine ih1.out.mono ?_; rintro e w1 ⟨rfl, hw1⟩; have HW1 := hideIt hw1; clear hw1)
          | (go_at_call 39; refine (HI.out d1 low m true w1 hm1 (by omega) hdl HW1.out).mono ?_; rintro e w2 ⟨rfl, hw2⟩; have HW2 := hideIt hw2; clear hw2))
        first | go_end0 | refine bodyPost_ret (results_none rfl _ _ _) rfl ?_
        exact ⟨rfl, HW2.out⟩

set_option maxHeartbeats 800000 in
set_option maxRecDepth 100000 in
theorem walkC_any (I : List (Nat × Nat × Bool) → World → Prop) (g0 : Nat) (top M : Nat) (htop : top ≤ 9223372036854775807)
    (hI : ∀ (done : List (Nat × Nat × Bool)) (lo hi : Nat) (b : Bool) (W : World), lo < hi → hi ≤ top → done.length + 1 ≤ M → I done W →
      Calls Tryd.prog 58 #[.int .i64 (lo : Int), .int .i64 (hi : Int), .bool b, .pointer (some ⟨g0, 0, none⟩)] W fun e w' => e = .returned (.tuple #[]) ∧ I (done ++ [(lo, hi, b)]) w')
    (N : Nat) : ∀ (low high i : Nat) (done : List (Nat × Nat × Bool)) (w : World), high - low ≤ 2 ^ N → done.length + N ≤ M → low ≤ i → i < high → high ≤ top → I done w →
    Calls Tryd.prog 38 #[.int .i64 (low : Int), .int .i64 (high : Int), .int .i64 (i : Int), .func (.func 58) #[] #[.pointer (some ⟨g0, 0, none⟩)]] w fun e w' => e = .returned (.tuple #[]) ∧ I (done ++ sibs low high i) w' := by
  induction N with
  | zero =>
    intro low high i done w h1 h0 h2 h3 h4 hw
    rw [sibs_one low high i (by simp at h1; omega), List.append_nil]
    refine (walk_one low high i _ (by simp at h1; omega) (by omega) (by omega) w).mono ?_
    rintro e w' ⟨rfl, rfl⟩
    exact ⟨rfl, hw⟩
  | succ N ih =>
    intro low high i done w h1 h0 h2 h3 h4 hw
    have HW := hideIt hw
    by_cases hone : high - low = 1
    · rw [sibs_one low high i (by omega), List.append_nil]
      refine (walk_one low high i _ (by omega) (by omega) (by omega) w).mono ?_
      rintro e w' ⟨rfl, rfl⟩
      exact ⟨rfl, hw⟩
    · have h5 : 2 ≤ high - low := by omega
      have hsp := splitK_spec _ h5
      have HSP := hideIt (fun W => split_any (high - low) h5 (by omega) W)
      have hkl := splitK_le _ N h5 h1
      have hsub : ((high - low : Nat) : Int) = (high : Int) - (low : Int) := by omega
      rw [hsub] at HSP
      have hL := sibs_left low high i h5
      have hR := sibs_right low high i h5
      obtain ⟨k, hk⟩ : ∃ k, k = splitK (high - low) := ⟨_, rfl⟩
      rw [← hk] at hsp HSP hL hR hkl
      have ht : ((high : Int) - (low : Int) == 1) = false := by rw [beq_eq_false_iff_ne]; omega
      obtain ⟨m, hm⟩ : ∃ m, m = low + k := ⟨_, rfl⟩
      have hmi : (low : Int) + (k : Int) = (m : Int) := by omega
      rw [← hm] at hL hR
      obtain ⟨s1, s2, s3⟩ := hsp
      have hm1 : low < m := by omega
      have hm2 : m < high := by omega
      have HI := hideIt hI
      by_cases hi : i < m
      · have ih1 := hideIt (ih low m i done w (by omega) (by omega) h2 hi (by omega) hw)
        rw [hL hi, ← List.append_assoc]
        have hd1l := sibs_le N low m i (by omega)
        obtain ⟨d1, hd1⟩ : ∃ d, d = done ++ sibs low m i := ⟨_, rfl⟩
        have hdl : d1.length + 1 ≤ M := by rw [hd1, List.length_append]; omega
        rw [← hd1] at ih1 ⊢
        have HMI := hideIt hmi
        have hii : ((i : Int) < (m : Int)) := by omega
        clear hw ih hI hL hR hk hm hd1 hsub h1 h0 hkl hd1l
        go_enter Tryd.func38, Tryd.ntmps38
        go_wp2_with (first
          | (go_at_call 44; refine (HSP.out _).mono ?_; rintro e w' ⟨rfl, rfl⟩)
          | (go_at_call 38; refine ih1.out.mono ?_; rintro e w1 ⟨rfl, hw1⟩; have HW1 := hideIt hw1; clear hw1)
          | (go_at_call 58; refine (HI.out d1 m high false w1 hm2 h4 hdl HW1.out).mono ?_; rintro e w2 ⟨rfl, hw2⟩; have HW2 := hideIt hw2; clear hw2))
        first | go_end0 | refine bodyPost_ret (results_none rfl _ _ _) rfl ?_
        exact ⟨rfl, HW2.out⟩
      · have ih1 := hideIt (ih m high i done w (by omega) (by omega) (by omega) h3 h4 hw)
        rw [hR hi, ← List.append_assoc]
        have hd1l := sibs_le N m high i (by omega)
        obtain ⟨d1, hd1⟩ : ∃ d, d = done ++ sibs m high i := ⟨_, rfl⟩
        have hdl : d1.length + 1 ≤ M := by rw [hd1, List.length_append]; omega
        rw [← hd1] at ih1 ⊢
        have HMI := hideIt hmi
        have hii : ¬ ((i : Int) < (m : Int)) := by omega
        clear hw ih hI hL hR hk hm hd1 hsub h1 h0 hkl hd1l
        go_enter Tryd.func38, Tryd.ntmps38
        go_wp2_with (first
          | (go_at_call 44; refine (HSP.out _).mono ?_; rintro e w' ⟨rfl, rfl⟩)
          | (go_at_call 38; refine ih1.out.mono ?_; rintro e w1 ⟨rfl, hw1⟩; have HW1 := hideIt hw1; clear hw1)
          | (go_at_call 58; refine (HI.out d1 low m true w1 hm1 (by omega) hdl HW1.out).mono ?_; rintro e w2 ⟨rfl, hw2⟩; have HW2 := hideIt hw2; clear hw2))
        first | go_end0 | refine bodyPost_ret (results_none rfl _ _ _) rfl ?_
        exact ⟨rfl, HW2.out⟩

end Go.Proofs.YtkjnimcapjjfdaaDoor
