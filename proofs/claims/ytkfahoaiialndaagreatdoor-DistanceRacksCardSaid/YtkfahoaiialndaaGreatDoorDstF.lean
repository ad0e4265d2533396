/-
  The program's small functions, walked: without, picked, isPerUnit, allUnits.
-/
import Derived.Test.YtkfahoaiialndaaGreatDoorD9a
import Derived.Test.YtkfahoaiialndaaGreatDoorD9b
import Derived.Test.YtkfahoaiialndaaGreatDoorD9c
import Derived.Test.YtkfahoaiialndaaGreatDoorD9d
import Derived.Test.YtkfahoaiialndaaGreatDoorD9f
import Derived.Test.YtkfahoaiialndaaGreatDoorD9h
import Derived.Test.YtkfahoaiialndaaGreatDoorDstA
import Derived.Test.YtkfahoaiialndaaGreatDoorDstB
import Derived.Test.YtkfahoaiialndaaGreatDoorDstR
import Derived.Test.YtkfahoaiialndaaGreatDoorDstS
import Derived.Test.YtkfahoaiialndaaGreatDoorDstM
import Derived.Test.YtkfahoaiialndaaGreatDoorDstG
import Derived.Test.YtkfahoaiialndaaGreatDoorDstI
namespace Go.Proofs.YtkfahoaiialndaaGreatDoor
open Go.RowKit
set_option linter.unusedVariables false
set_option linter.unusedSimpArgs false

set_option maxHeartbeats 1000000 in
set_option maxRecDepth 100000 in
theorem pwithout_any (hs : List Bool) (S : List Nat) (hn : hs.length ≤ 1000) (h0 : 0 < hs.length) (hS : S.length ≤ 10000) (hin : ∀ i ∈ S, i < hs.length) (D : Option Addr) (cd : Nat) (E : Option Addr) (ce : Nat) (w : World) (hD : Sl w w.heap.size D 1 hs.length (hs.map bl)) (hE : Sl w w.heap.size E 1 S.length ((nI S).map iv)) :
    Calls Tryz.prog 48 #[.slice D hs.length cd, .slice E S.length ce] w fun e w' => ∃ A c, e = .returned (.slice A hs.length c) ∧ w'.ownsRow w.heap.size 4 1 (.slice A hs.length c) hs.length ((wo hs S).map bl) ∧ Below w.heap.size w w' := by
  have HCL := hideIt (cloneB_any hs h0 (by omega) D cd w hD)
  have HE := hideIt hE
  have HIN := hideIt hin
  clear hD hE hin
  go_enter Tryz.func48, Tryz.ntmps48
  go_wp2_with (first
    | (go_at_call 73; refine HCL.out.mono ?_; rintro e w5 ⟨g5, c5, rfl, ho5, hb5⟩; have HO5 := hideIt ho5; have HB5 := hideIt hb5; clear ho5 hb5))
  go_loopg [12] S.length (fun gk s6 wr => ∃ k : Nat, k + gk = S.length ∧ s6 = .int .i64 (k : Int) ∧ Aside (wr.ownsRow w.heap.size 4 1 (.slice (some ⟨g5, 0, none⟩) hs.length c5) hs.length ((wo hs (S.take k)).map bl)) ∧ Aside (Below w.heap.size w wr))
  case atStart => exact ⟨0, by omega, rfl, HO5.out, HB5.out⟩
  case round =>
    obtain ⟨k, hk, rfl, HW, HL⟩ := hrel
    obtain ⟨w4, rfl⟩ : ∃ x, x = wr := ⟨wr, rfl⟩
    by_cases hlt : k < S.length
    · have hinc := inc_c 3 k (by omega)
      have hki : (k : Int) < (S.length : Int) := by omega
      obtain ⟨b2, o2, u2, rfl, hb2, hu2, hc2⟩ := (HE.out.below HL.out).at_ hlt
      rw [List.getElem?_map, nI_at hlt] at hu2
      injection hu2 with hu2
      subst hu2
      change w4.cell? ⟨b2, o2 + k, none⟩ = some (.int .i64 ((S[k] : Nat) : Int)) at hc2
      have hik := HIN.out S[k] (List.getElem_mem hlt)
      have HT := hideIt (take_snoc S k hlt)
      generalize S[k] = i at *
      obtain ⟨g, cap, cs, hgv, hg1, hg2, hg3⟩ := own_at0 HW.out hik
      injection hgv with hgv _ hcap
      injection hgv with hgv
      injection hgv with hgv _ _
      subst hgv hcap
      have hfr := hg2.free i
      have hce := hg2.cell i
      rw [← hg3, List.getElem?_map, List.getElem?_eq_getElem (by rw [wo_len]; exact hik)] at hce
      have HP := hideIt (own_put (k := i) (u := .bool false) HW.out)
      have HBS := hideIt (below_set HL.out hg1 i (.bool false))
      have hii : (i : Int) < (hs.length : Int) := by omega
      clear hg1 hg2 hg3 hb2
      go_wp2_with fail
      go_roundg (gk - 1)
      case measure => omega
      case rel => exact ⟨k + 1, by omega, by go_num, by
        have := HP.out
        rw [HT.out, ← wo_app]
        rwa [show ((wo hs (S.take k)).map bl).set i (.bool false) = (wo (wo hs (S.take k)) [i]).map bl from (List.map_set ..).symm] at this, HBS.out⟩
    · have hki : ¬ (k : Int) < (S.length : Int) := by omega
      have HW2 := hideIt HW.out
      rw [List.take_of_length_le (by omega)] at HW2
      go_wp2_with fail
      go_ret
      exact ⟨_, _, rfl, HW2.out, HL.out⟩

/-- The first j numbers, then zeros. -/
def part9 (xs : List Int) (j : Nat) : List Int := xs.take j ++ List.replicate (xs.length - j) 0
theorem part9_len {xs : List Int} {j : Nat} (h : j ≤ xs.length) : (part9 xs j).length = xs.length := by unfold part9; simp; omega
theorem part9_set {xs : List Int} {j : Nat} (h : j < xs.length) : ((part9 xs j).map iv).set j (iv xs[j]) = (part9 xs (j + 1)).map iv := by
  rw [← List.map_set]
  congr 1
  unfold part9
  have ht : (xs.take j).length = j := by rw [List.length_take]; omega
  rw [List.set_append_right _ _ (by omega), ht, Nat.sub_self, show xs.length - j = (xs.length - (j + 1)) + 1 by omega, List.replicate_succ, List.set_cons_zero, take_snoc xs j h, List.append_assoc]
  rfl
theorem part9_end (xs : List Int) : part9 xs xs.length = xs := by unfold part9; simp
set_option maxHeartbeats 1000000 in
set_option maxRecDepth 100000 in
theorem picked_any (l : List Int) (M : List Nat) (hl : l.length ≤ 1000) (hM : M.length ≤ 1000) (hin : ∀ i ∈ M, i < l.length) (A : Option Addr) (c : Nat) (E : Option Addr) (ce : Nat) (w : World) (hA : Sl w w.heap.size A 1 l.length (l.map iv)) (hE : Sl w w.heap.size E 1 M.length ((nI M).map iv)) :
    Calls Tryz.prog 70 #[.slice A l.length c, .slice E M.length ce] w fun e w' => e = .returned (.slice (some ⟨w.heap.size, 0, none⟩) M.length M.length) ∧ Blk w' w.heap.size 3 ((pickL l M).map iv) ∧ Below w.heap.size w w' := by
  have HA := hideIt hA
  have HE := hideIt hE
  have HIN := hideIt hin
  have hpl : (pickL l M).length = M.length := by unfold pickL; rw [List.length_map]
  have HPL := hideIt hpl
  clear hA hE hin hpl
  go_enter Tryz.func70, Tryz.ntmps70
  go_wp2_with (first
    | ((with_reducible refine at_make ?_); refine wpList_zeros _ rfl (.tmp 9) (.tmp 9) rfl M.length rfl rfl (by omega) ?_; intro w2 HB2 HW2))
  go_loopg [13] M.length (fun gk s6 wr => ∃ k : Nat, k + gk = M.length ∧ s6 = .int .i64 (k : Int) ∧ Aside (Blk wr w.heap.size 3 ((part9 (pickL l M) k).map iv)) ∧ Aside (Below w.heap.size w wr))
  case atStart => exact ⟨0, by omega, rfl, by
    have h := HB2.out
    rw [show nl M.length (fun _ => 0) = part9 (pickL l M) 0 by unfold part9 nl; rw [List.take_zero, List.nil_append, HPL.out, Nat.sub_zero, List.map_const', List.length_range]; rfl] at h
    exact h, HW2.out⟩
  case round =>
    obtain ⟨k, hk, rfl, HW, HL⟩ := hrel
    obtain ⟨w4, rfl⟩ : ∃ x, x = wr := ⟨wr, rfl⟩
    by_cases hlt : k < M.length
    · have hinc := inc_c 3 k (by omega)
      have hki : (k : Int) < (M.length : Int) := by omega
      obtain ⟨b2, o2, u2, rfl, hb2, hu2, hc2⟩ := (HE.out.below HL.out).at_ hlt
      rw [List.getElem?_map, nI_at hlt] at hu2
      injection hu2 with hu2
      subst hu2
      change w4.cell? ⟨b2, o2 + k, none⟩ = some (.int .i64 ((M[k] : Nat) : Int)) at hc2
      have hik := HIN.out M[k] (List.getElem_mem hlt)
      obtain ⟨b3, o3, rfl, hb3, hc3⟩ := (HA.out.below HL.out).num hik
      have HX := hideIt (show (pickL l M)[k]'(by rw [HPL.out]; exact hlt) = l[M[k]] by unfold pickL; rw [List.getElem_map, getD_lt hik])
      have HST := hideIt (part9_set (xs := pickL l M) (j := k) (by rw [HPL.out]; exact hlt))
      rw [HX.out] at HST
      have hfr := HW.out.free k
      have hce := HW.out.cell k
      rw [List.getElem?_eq_getElem (by rw [List.length_map, part9_len (by rw [HPL.out]; omega), HPL.out]; exact hlt)] at hce
      have HP := hideIt (HW.out.store k (iv l[M[k]]))
      rw [HST.out] at HP
      have HBS := hideIt (below_set HL.out (Nat.le_refl _) k (iv l[M[k]]))
      clear HX HST
      generalize l[M[k]] = x at *
      generalize M[k] = i at *
      have hii : (i : Int) < (l.length : Int) := by omega
      clear hb2 hb3
      go_wp2_with fail
      go_roundg (gk - 1)
      case measure => omega
      case rel => exact ⟨k + 1, by omega, by go_num, HP.out, HBS.out⟩
    · have hki : ¬ (k : Int) < (M.length : Int) := by omega
      obtain rfl : k = M.length := by omega
      have HW2 := hideIt HW.out
      rw [← HPL.out, part9_end] at HW2
      go_wp2_with fail
      go_ret
      exact ⟨rfl, HW2.out, HL.out⟩
end Go.Proofs.YtkfahoaiialndaaGreatDoor
