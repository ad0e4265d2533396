/-
  The comparison of lists of digests: the reference's Same.
-/
import Derived.Test.YtkjnimcapjjfdaaDoorDig
import Derived.Deep.LoopGhost
import Derived.Deep.QuietTactic
import Derived.BigQuiet
import Derived.Deep.MidRow
namespace Go.Proofs.YtkjnimcapjjfdaaDoor
set_option linter.unusedVariables false
open Go.RowKit

theorem len_ne (a b : Nat) (h : a ≠ b) : ((a : Int) != (b : Int)) = true := by simp; omega
theorem len_eq (a : Nat) : ((a : Int) != (a : Int)) = false := by simp

set_option maxHeartbeats 400000 in
set_option maxRecDepth 100000 in
theorem refSame_any (A A' : Option Addr) (B B' c c' : Nat) (xs ys : List (List UInt8)) (w : World) (hx : Sl w B A 16 xs.length (xs.flatten.map bv)) (hy : Sl w B' A' 16 ys.length (ys.flatten.map bv))
    (hdx : ∀ d ∈ xs, d.length = 16) (hdy : ∀ d ∈ ys, d.length = 16) (hlx : xs.length ≤ 1000000000) (hly : ys.length ≤ 1000000000) :
    Calls Tryd.prog 21 #[.slice A xs.length c, .slice A' ys.length c'] w fun e w' => e = .returned (.bool (decide (xs = ys))) ∧ ∃ n, w' = w.drewN n := by
  have HX := hideIt hx
  have HY := hideIt hy
  have HDX := hideIt hdx
  have HDY := hideIt hdy
  clear hx hy hdx hdy
  by_cases hl : xs.length = ys.length
  · have Hl := hideIt hl
    clear hl
    have ht : ((xs.length : Int) != (ys.length : Int)) = false := by rw [Hl.out]; simp
    go_enter Tryd.func21, Tryd.ntmps21
    go_wp2
    go_loopg [5] xs.length (fun g s5 wr => ∃ k : Nat, g + k = xs.length ∧ s5 = .int .i64 k ∧ Aside (xs.take k = ys.take k ∧ ∃ n, wr = w.drewN n))
    case atStart => exact ⟨0, by omega, rfl, by simp, 0, rfl⟩
    case round =>
      obtain ⟨k, hg, rfl, HA⟩ := hrel
      obtain ⟨n0, rfl⟩ := HA.out.2
      have HT := hideIt HA.out.1
      clear HA
      by_cases hk : k < xs.length
      · obtain ⟨b, off, rfl, hb, hc⟩ := HX.out.dig HDX.out hk
        obtain ⟨b', off', rfl, hb', hc'⟩ := HY.out.dig HDY.out (k := k) (by have := Hl.out; omega)
        have hk' : k < ys.length := by have := Hl.out; omega
        have R1 : ∀ W, (∃ n, W = (w.drewN n0).drewN n) → (Instr.loadAt 30 (.pointer (some ⟨b, off + k * 16, none⟩))).run Tryd.prog W = .ok (dv xs[k]) W := by
          rintro _ ⟨n, rfl⟩; exact run_load16 hc
        have R2 : ∀ W, (∃ n, W = (w.drewN n0).drewN n) → (Instr.loadAt 30 (.pointer (some ⟨b', off' + k * 16, none⟩))).run Tryd.prog W = .ok (dv ys[k]) W := by
          rintro _ ⟨n, rfl⟩; exact run_load16 hc'
        have HR1 := hideIt R1
        have HR2 := hideIt R2
        clear R1 R2
        have heq := equal_digest xs[k] ys[k] (HDX.out _ (List.getElem_mem hk)) (HDY.out _ (List.getElem_mem hk'))
        clear hc hc'
        by_cases he : xs[k] = ys[k]
        · rw [decide_eq_true he] at heq
          have HE := hideIt he
          clear he
          go_wp2
          refine wp_region_quiet_lit (by kernel_rfl) (by kernel_rfl) ?_
          repeat (first
            | (refine wpQuiet_step (fun K hK => ?_); refine quiet_load rfl 30 (.tmp 19) rfl _ HR1.out ?_; go_simp; refine hK _ ?_; clear hK K)
            | (refine wpQuiet_step (fun K hK => ?_); refine quiet_load rfl 30 (.tmp 23) rfl _ HR2.out ?_; go_simp; refine hK _ ?_; clear hK K)
            | quiet_step (fail))
          refine wpQuiet_nil ?_
          intro _ hw'
          obtain ⟨nq, hw''⟩ := hw'
          subst hw''
          go_wp2
          go_roundg (gk - 1)
          case measure => omega
          case rel => exact ⟨k + 1, by omega, by go_num, by rw [take_snoc _ _ hk, take_snoc _ _ hk', HT.out, HE.out], _, rfl⟩
        · rw [decide_eq_false he] at heq
          have HE := hideIt he
          clear he
          go_wp2
          refine wp_region_quiet_lit (by kernel_rfl) (by kernel_rfl) ?_
          repeat (first
            | (refine wpQuiet_step (fun K hK => ?_); refine quiet_load rfl 30 (.tmp 19) rfl _ HR1.out ?_; go_simp; refine hK _ ?_; clear hK K)
            | (refine wpQuiet_step (fun K hK => ?_); refine quiet_load rfl 30 (.tmp 23) rfl _ HR2.out ?_; go_simp; refine hK _ ?_; clear hK K)
            | quiet_step (fail))
          refine wpQuiet_nil ?_
          intro _ hw'
          obtain ⟨nq, hw''⟩ := hw'
          subst hw''
          go_wp2
          go_ret
          exact ⟨ret_b (decide_eq_false fun h => HE.out (by subst h; rfl)).symm, _, World.drewN_drewN _ _ _⟩
      · go_wp2
        go_ret
        have hkl : k = xs.length := by omega
        have := HT.out
        rw [hkl, List.take_length, Hl.out, List.take_length] at this
        exact ⟨ret_b (decide_eq_true this).symm, _, rfl⟩
  · have ht := len_ne _ _ hl
    have Hl := hideIt hl
    clear hl
    go_enter Tryd.func21, Tryd.ntmps21
    go_wp2
    go_ret
    exact ⟨ret_b (decide_eq_false fun h => Hl.out (by rw [h])).symm, 0, rfl⟩


end Go.Proofs.YtkjnimcapjjfdaaDoor
