/-
  The library's Repeat at bools, walked; its Values, Sorted and Compact at integers.
-/
import Derived.Test.YtkfahoaiialndaaGreatDoorDstG
import Derived.Test.YtkfahoaiialndaaGreatDoorLayN
namespace Go.Proofs.YtkfahoaiialndaaGreatDoor
open Go.RowKit
set_option linter.unusedVariables false
set_option linter.unusedSimpArgs false

def Held (p : Prop) : Prop := p
theorem held {p : Prop} (h : Held p) : p := h
theorem mul9 (k : Nat) (hk : k ≤ 1000) (w : World) :
    Calls Tryz.prog 56 #[.int .u64 1, .int .u64 (k : Int)] w fun e w' => e = .returned (.tuple #[.int .u64 0, .int .u64 (k : Int)]) ∧ w = w' := by
  have h := Any.bits_Mul layM 1 k (by omega) (by omega) w
  rw [show 1 * k / 18446744073709551616 = 0 by omega, show 1 * k % 18446744073709551616 = k by omega] at h
  refine h.mono ?_
  rintro e w' ⟨rfl, rfl⟩
  exact ⟨rfl, rfl⟩
theorem conv9 (k : Nat) (hk : k ≤ 1000) : IntKind.u64.wrap (k : Int) = (k : Int) := by rw [IntKind.wrap_u64]; omega
set_option maxRecDepth 100000 in
set_option maxHeartbeats 1000000 in
theorem repeatB_any (k : Nat) (hk : k ≤ 1000) (S : Option Addr) (c : Nat) (w : World) (hs : Sl w w.heap.size S 1 1 [.bool true]) :
    Calls Tryz.prog 38 #[.slice S 1 c, .int .i64 (k : Int)] w fun e w' => ∃ g, e = .returned (.slice (some ⟨g, 0, none⟩) k k) ∧ w.heap.size ≤ g ∧ Blk w' g 4 ((List.replicate k true).map bl) ∧ Below w.heap.size w w' := by
  obtain ⟨b, o, hD, hb, hcell⟩ := hs.2 (by decide)
  subst hD
  have HM := hideIt (fun W => mul9 k hk W)
  have hw := conv9 k hk
  have hw2 : IntKind.i64.wrap (k : Int) = (k : Int) := IntWalk.i64_in _ (by omega)
  have hneg : ¬ (k : Int) < 0 := by omega
  have hgt : ¬ (k : Int) > 9223372036854775807 := by omega
  have HC := hideIt (fun (W : World) (h : Below w.heap.size w W) => show W.cell? ⟨b, o, none⟩ = some (.bool true) by rw [h.cell (p := ⟨b, o, none⟩) hb]; exact hcell 0 _ rfl)
  clear hcell hs hb
  go_enter Tryz.func38, Tryz.ntmps38
  go_wp2_with (first
    | (go_at_call 56; refine (HM.out _).mono ?_; rintro e w1 ⟨rfl, rfl⟩)
    | ((with_reducible refine at_make ?_); refine wpList_mkB _ rfl (.tmp 29) (.tmp 29) rfl k rfl rfl (by omega) ?_; intro w2 HB2 HW2)
    | ((with_reducible refine at_copy ?_); refine wpList_copy_splice rfl (.tmp 31) (.tmp 32) 25 25 rfl 4 Tryz.underlying25 (by kernel_rfl) _ _ k k 1 c rfl rfl w.heap.size 0 ((List.replicate k false).map bl) 4 HB2.out ((List.replicate (min 1 k) true).map bl) (by rw [List.length_map, List.length_replicate]) (fun hp => ⟨rfl, _, rfl, fun j v hj => by
        obtain ⟨hj1, e⟩ := List.getElem?_eq_some_iff.1 hj
        rw [List.length_map, List.length_replicate] at hj1
        obtain rfl : j = 0 := by omega
        rw [addr_add, Nat.add_zero, HC.out _ HW2.out, ← e]; simp⟩) (by rw [Nat.zero_add, List.length_map, List.length_replicate, List.length_map, List.length_replicate]; omega) (bl_one _) w.heap.size w HW2.out (Nat.le_refl _) ?_; intro w3 HB3 hb3; have HW3 := hideIt hb3; clear hb3))
  have HBX := hideIt (show Blk w3 w.heap.size 4 ((half9 (min 1 k) k).map bl) by
    have h := HB3.out
    rw [show splice ((List.replicate k false).map bl) 0 ((List.replicate (min 1 k) true).map bl) = (half9 (min 1 k) k).map bl by
      have := half9_splice (j := 0) (k := k) (t := min 1 k) (by omega)
      rw [Nat.zero_add] at this
      exact this] at h
    exact h)
  clear HB3
  go_loopg [8] k (fun gk s8 wr => ∃ j : Nat, k ≤ j + gk ∧ j ≤ k ∧ (0 < k → 1 ≤ j) ∧ s8 = .int .i64 (j : Int) ∧ Aside (Blk wr w.heap.size 4 ((half9 j k).map bl)) ∧ Aside (Below w.heap.size w wr))
  case atStart => exact ⟨min 1 k, by omega, by omega, by omega, rfl, HBX.out, HW3.out⟩
  case round =>
    obtain ⟨j, hj, hjk, hj1, rfl, HBJ, HWJ⟩ := hrel
    by_cases hlt : j < k
    · have hji : (j : Int) < (k : Int) := by omega
      obtain ⟨t, ht⟩ : ∃ t, t = min (k - j) j := ⟨_, rfl⟩
      have htk : j + t ≤ k := by omega
      have ht1 : 1 ≤ t := by omega
      have hadd := nadd 3 j t (by omega)
      have hj63 : (j : Int) ≤ (k : Int) := by omega
      have hj0 : (0 : Int) ≤ (j : Int) := by omega
      have HBD := hideIt (show Blk wr.drew w.heap.size 4 ((half9 j k).map bl) from HBJ.out)
      go_wp2_with fail
      refine loads_begin_n 10 [] rfl (by kernel_rfl) ?_
      try simp only [Act.put]
      try simp only [List.setIfInBounds_toArray]
      try simp only [List.set_cons_succ]
      try simp only [List.set_cons_zero]
      refine wpAnyL_move (oi := ⟨some 38, _, _, _, _, _⟩) 0 ?_ rfl (by kernel_rfl) (by kernel_rfl) (by kernel_rfl) (by kernel_rfl) (fun _ _ _ h => h) (by kernel_rfl) ?_ ((Hooks.nil _ _)) ?_
      rotate_left
      · intro W'; go_simp; first | done | with_reducible rfl
      try simp only [Act.put]
      try simp only [List.setIfInBounds_toArray]
      try simp only [List.set_cons_succ]
      try simp only [List.set_cons_zero]
      refine wpAnyL_move (oi := ⟨some 39, _, _, _, _, _⟩) 1 ?_ rfl (by kernel_rfl) (by kernel_rfl) (by kernel_rfl) (by kernel_rfl) (fun _ _ _ h => h) (by kernel_rfl) ?_ ((Hooks.nil _ _)) ?_
      rotate_left
      · intro W'; go_simp; first | done | with_reducible rfl
      try simp only [Act.put]
      try simp only [List.setIfInBounds_toArray]
      try simp only [List.set_cons_succ]
      try simp only [List.set_cons_zero]
      refine wpAnyL_move (oi := ⟨some 40, _, _, _, _, _⟩) 2 ?_ rfl (by kernel_rfl) (by kernel_rfl) (by kernel_rfl) (by kernel_rfl) (fun _ _ _ h => h) (by kernel_rfl) ?_ ((Hooks.nil _ _)) ?_
      rotate_left
      · intro W'; go_simp; first | done | with_reducible rfl
      try simp only [Act.put]
      try simp only [List.setIfInBounds_toArray]
      try simp only [List.set_cons_succ]
      try simp only [List.set_cons_zero]
      refine wpAnyL_move (oi := ⟨some 41, _, _, _, _, _⟩) 3 ?_ rfl (by kernel_rfl) (by kernel_rfl) (by kernel_rfl) (by kernel_rfl) (fun _ _ _ h => h) (by kernel_rfl) ?_ ((Hooks.nil _ _)) ?_
      rotate_left
      · intro W'; go_simp; first | done | with_reducible rfl
      try simp only [Act.put]
      try simp only [List.setIfInBounds_toArray]
      try simp only [List.set_cons_succ]
      try simp only [List.set_cons_zero]
      refine wpAnyL_move (oi := ⟨some 42, _, _, _, _, _⟩) 4 ?_ rfl (by kernel_rfl) (by kernel_rfl) (by kernel_rfl) (by kernel_rfl) (fun _ _ _ h => h) (by kernel_rfl) ?_ ((Hooks.nil _ _)) ?_
      rotate_left
      · intro W'; go_simp; first | done | with_reducible rfl
      try simp only [Act.put]
      try simp only [List.setIfInBounds_toArray]
      try simp only [List.set_cons_succ]
      try simp only [List.set_cons_zero]
      refine wpAnyL_move (oi := ⟨some 43, _, _, _, _, _⟩) 5 ?_ rfl (by kernel_rfl) (by kernel_rfl) (by kernel_rfl) (by kernel_rfl) (fun _ _ _ h => h) (by kernel_rfl) ?_ ((Hooks.nil _ _)) ?_
      rotate_left
      · intro W'; go_simp; first | done | with_reducible rfl
      try simp only [Act.put]
      try simp only [List.setIfInBounds_toArray]
      try simp only [List.set_cons_succ]
      try simp only [List.set_cons_zero]
      refine wpAnyL_move (oi := ⟨some 44, _, _, _, _, _⟩) 6 ?_ rfl (by kernel_rfl) (by kernel_rfl) (by kernel_rfl) (by kernel_rfl) (fun _ _ _ h => h) (by kernel_rfl) ?_ ((Hooks.nil _ _)) ?_
      rotate_left
      · intro W'; go_simp; first | done | with_reducible rfl
      try simp only [Act.put]
      try simp only [List.setIfInBounds_toArray]
      try simp only [List.set_cons_succ]
      try simp only [List.set_cons_zero]
      refine wpAnyL_one (o := ⟨some 45, _, _, _, _, _⟩) 7 (by kernel_rfl) rfl (fun K hK => ?_)
      go_wp2_with ((with_reducible refine at_copy ?_); refine held ?_)
      unfold Held
      refine wpList_copy_splice rfl (.tmp 41) (.tmp 44) 25 25 rfl 4 Tryz.underlying25 (by kernel_rfl) (some ⟨w.heap.size, j, none⟩) (some ⟨w.heap.size, 0, none⟩) (k - j) (k - j) j k rfl rfl w.heap.size j ((half9 j k).map bl) 4 HBD.out ((List.replicate t true).map bl) (by rw [List.length_map, List.length_replicate, ht]; exact Nat.min_comm _ _) (fun hp => ⟨rfl, _, rfl, half9_src HBD.out (by omega)⟩) (by rw [List.length_map, List.length_replicate, List.length_map, half9_len hjk]; exact htk) (bl_one _) w.heap.size w HWJ.out.drew (Nat.le_refl _) ?_
      intro w4 HB4 hb4
      have HW4 := hideIt hb4
      clear hb4
      go_wp2_with fail
      refine hK _ _ (Hooks.nil _ _) ?_
      clear hK K
      try simp only [Act.put]
      try simp only [List.setIfInBounds_toArray]
      try simp only [List.set_cons_succ]
      try simp only [List.set_cons_zero]
      refine loads_tail 8 (by kernel_rfl) (by kernel_rfl) (by kernel_rfl) (by kernel_rfl) ?_
      simp only [List.drop_succ_cons, List.drop_zero]
      have hlt9 : ((List.replicate t true).map bl).length = t := by rw [List.length_map, List.length_replicate]
      go_wp2_with fail
      go_roundg (gk - t)
      case measure => omega
      case rel => exact ⟨j + t, by omega, by omega, by omega, by go_num, by rw [← half9_splice htk]; exact HB4.out, HW4.out⟩
    · have hji : ¬ (j : Int) < (k : Int) := by omega
      obtain rfl : j = k := by omega
      go_wp2_with fail
      go_ret
      refine ⟨_, rfl, Nat.le_refl _, ?_, HWJ.out⟩
      have h := HBJ.out
      unfold half9 at h
      rw [Nat.sub_self, List.replicate_zero, List.append_nil, List.map_replicate] at h
      exact h
end Go.Proofs.YtkfahoaiialndaaGreatDoor
