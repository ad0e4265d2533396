/-
  The comparisons of the specification: SameInts, SameTexts.
-/
import Derived.Test.YtpjgmekpnlpjaaaDoorEreA
namespace Go.Proofs.YtpjgmekpnlpjaaaDoor
open Go.RowKit
set_option linter.unusedVariables false
set_option linter.unusedSimpArgs false
theorem s_neq (T : TypeId) (a b : List UInt8) : binOp .neq T (.string (str a)) (.string (str b)) = pure (.bool (decide (a ≠ b))) := by
  have h : decide (a ≠ b) = !(a == b) := by rw [Bool.eq_iff_iff, decide_eq_true_iff, Bool.not_eq_true', beq_eq_false_iff_ne]
  rw [h, binOp_string_neq, Lib.toList_data, Lib.toList_data, str_list, str_list]
theorem ret_b8 {a b : Bool} (h : a = b) : Ending.returned (.bool a) = Ending.returned (.bool b) := by rw [h]

set_option maxHeartbeats 400000 in
set_option maxRecDepth 100000 in
theorem sameInts_any (xs ys : List Int) (A A' : Option Addr) (c c' : Nat) (w : World) (hx : Sl w w.heap.size A 1 xs.length (xs.map iv)) (hy : Sl w w.heap.size A' 1 ys.length (ys.map iv)) (hlx : xs.length ≤ 100000) :
    Calls Tryd.prog 18 #[.slice A xs.length c, .slice A' ys.length c'] w fun e w' => e = .returned (.bool (decide (xs = ys))) ∧ ∃ n, w' = w.drewN n := by
  have HX := hideIt hx
  have HY := hideIt hy
  clear hx hy
  by_cases hl : xs.length = ys.length
  · have Hl := hideIt hl
    have ht : binOp .neq 3 (.int .i64 (xs.length : Int)) (.int .i64 (ys.length : Int)) = pure (.bool false) := by rw [i_neq, decide_eq_false (by omega)]
    clear hl
    go_enter Tryd.func18, Tryd.ntmps18
    go_wp2_with fail
    go_loopg [4, 5] xs.length (fun g s4 s5 wr => ∃ k : Nat, g + k = xs.length ∧ s4 = .bool false ∧ s5 = .int .i64 k ∧ Aside (xs.take k = ys.take k ∧ ∃ n, wr = w.drewN n))
    case atStart => exact ⟨0, by omega, rfl, rfl, by simp, 0, rfl⟩
    case round =>
      obtain ⟨k, hg, rfl, rfl, HA⟩ := hrel
      obtain ⟨n0, hn0⟩ := HA.out.2
      have HT := hideIt HA.out.1
      clear HA
      by_cases hk : k < xs.length
      · have hk' : k < ys.length := by have := Hl.out; omega
        obtain ⟨b, off, u, rfl, hb, hu, hc⟩ := HX.out.at_ hk
        obtain ⟨b', off', u', rfl, hb', hu', hc'⟩ := HY.out.at_ hk'
        rw [List.getElem?_map, List.getElem?_eq_getElem hk] at hu
        rw [List.getElem?_map, List.getElem?_eq_getElem hk'] at hu'
        injection hu with hu
        injection hu' with hu'
        subst hu hu'
        have hc1 : wr.cell? ⟨b, off + k, none⟩ = some (.int .i64 xs[k]) := by rw [hn0]; exact hc
        have hc2 : wr.cell? ⟨b', off' + k, none⟩ = some (.int .i64 ys[k]) := by rw [hn0]; exact hc'
        have HN := hideIt hn0
        have hki : (k : Int) < (xs.length : Int) := by omega
        have hki2 : (k : Int) < (ys.length : Int) := by omega
        have hinc := inc_c 3 k (by omega)
        have HTX := hideIt (take_snoc xs k hk)
        have HTY := hideIt (take_snoc ys k hk')
        by_cases he : xs[k] = ys[k]
        · have HE := hideIt he
          have hne : binOp .neq 3 (.int .i64 xs[k]) (.int .i64 ys[k]) = pure (.bool false) := by rw [i_neq, decide_eq_false (fun h => h he)]
          clear he hn0 hc hc' hb hb'
          go_wp2_with fail
          go_quiet (fail)
          go_wp2_with fail
          go_roundg (gk - 1)
          case measure => omega
          case rel => exact ⟨k + 1, by omega, rfl, by go_num, by rw [HTX.out, HTY.out, HT.out, HE.out], by rw [HN.out]; exact ⟨_, World.drewN_drewN _ _ _⟩⟩
        · have HE := hideIt he
          have hne : binOp .neq 3 (.int .i64 xs[k]) (.int .i64 ys[k]) = pure (.bool true) := by rw [i_neq, decide_eq_true he]
          clear he hn0 hc hc' hb hb'
          go_wp2_with fail
          go_quiet (fail)
          go_wp2_with fail
          go_ret
          exact ⟨ret_b (decide_eq_false fun h => HE.out (by subst h; rfl)).symm, by rw [HN.out]; exact ⟨_, World.drewN_drewN _ _ _⟩⟩
      · have hki : ¬ (k : Int) < (xs.length : Int) := by omega
        go_wp2_with fail
        go_ret
        have hkl : k = xs.length := by omega
        have := HT.out
        rw [hkl, List.take_length, Hl.out, List.take_length] at this
        exact ⟨ret_b (decide_eq_true this).symm, n0, rfl⟩
  · have ht : binOp .neq 3 (.int .i64 (xs.length : Int)) (.int .i64 (ys.length : Int)) = pure (.bool true) := by rw [i_neq, decide_eq_true (by omega)]
    have Hl := hideIt hl
    clear hl
    go_enter Tryd.func18, Tryd.ntmps18
    go_wp2_with fail
    go_ret
    exact ⟨ret_b (decide_eq_false fun h => Hl.out (by rw [h])).symm, 0, rfl⟩

set_option maxHeartbeats 400000 in
set_option maxRecDepth 100000 in
theorem sameTexts_any (xs ys : List (List UInt8)) (A A' : Option Addr) (c c' : Nat) (w : World) (hx : Sl w w.heap.size A 1 xs.length (xs.map sv)) (hy : Sl w w.heap.size A' 1 ys.length (ys.map sv)) (hlx : xs.length ≤ 100000) :
    Calls Tryd.prog 23 #[.slice A xs.length c, .slice A' ys.length c'] w fun e w' => e = .returned (.bool (decide (xs = ys))) ∧ ∃ n, w' = w.drewN n := by
  have HX := hideIt hx
  have HY := hideIt hy
  clear hx hy
  by_cases hl : xs.length = ys.length
  · have Hl := hideIt hl
    have ht : binOp .neq 3 (.int .i64 (xs.length : Int)) (.int .i64 (ys.length : Int)) = pure (.bool false) := by rw [i_neq, decide_eq_false (by omega)]
    clear hl
    go_enter Tryd.func23, Tryd.ntmps23
    go_wp2_with fail
    go_loopg [4, 5] xs.length (fun g s4 s5 wr => ∃ k : Nat, g + k = xs.length ∧ s4 = .bool false ∧ s5 = .int .i64 k ∧ Aside (xs.take k = ys.take k ∧ ∃ n, wr = w.drewN n))
    case atStart => exact ⟨0, by omega, rfl, rfl, by simp, 0, rfl⟩
    case round =>
      obtain ⟨k, hg, rfl, rfl, HA⟩ := hrel
      obtain ⟨n0, hn0⟩ := HA.out.2
      have HT := hideIt HA.out.1
      clear HA
      by_cases hk : k < xs.length
      · have hk' : k < ys.length := by have := Hl.out; omega
        obtain ⟨b, off, u, rfl, hb, hu, hc⟩ := HX.out.at_ hk
        obtain ⟨b', off', u', rfl, hb', hu', hc'⟩ := HY.out.at_ hk'
        rw [List.getElem?_map, List.getElem?_eq_getElem hk] at hu
        rw [List.getElem?_map, List.getElem?_eq_getElem hk'] at hu'
        injection hu with hu
        injection hu' with hu'
        subst hu hu'
        have hc1 : wr.cell? ⟨b, off + k, none⟩ = some (.string (str xs[k])) := by rw [hn0]; exact hc
        have hc2 : wr.cell? ⟨b', off' + k, none⟩ = some (.string (str ys[k])) := by rw [hn0]; exact hc'
        have HN := hideIt hn0
        have hki : (k : Int) < (xs.length : Int) := by omega
        have hki2 : (k : Int) < (ys.length : Int) := by omega
        have hinc := inc_c 3 k (by omega)
        have HTX := hideIt (take_snoc xs k hk)
        have HTY := hideIt (take_snoc ys k hk')
        by_cases he : xs[k] = ys[k]
        · have HE := hideIt he
          have hne : binOp .neq 9 (.string (str xs[k])) (.string (str ys[k])) = pure (.bool false) := by rw [s_neq, decide_eq_false (fun h => h he)]
          clear he hn0 hc hc' hb hb'
          go_wp2_with fail
          go_quiet (fail)
          go_wp2_with fail
          go_roundg (gk - 1)
          case measure => omega
          case rel => exact ⟨k + 1, by omega, rfl, by go_num, by rw [HTX.out, HTY.out, HT.out, HE.out], by rw [HN.out]; exact ⟨_, World.drewN_drewN _ _ _⟩⟩
        · have HE := hideIt he
          have hne : binOp .neq 9 (.string (str xs[k])) (.string (str ys[k])) = pure (.bool true) := by rw [s_neq, decide_eq_true he]
          clear he hn0 hc hc' hb hb'
          go_wp2_with fail
          go_quiet (fail)
          go_wp2_with fail
          go_ret
          exact ⟨ret_b (decide_eq_false fun h => HE.out (by subst h; rfl)).symm, by rw [HN.out]; exact ⟨_, World.drewN_drewN _ _ _⟩⟩
      · have hki : ¬ (k : Int) < (xs.length : Int) := by omega
        go_wp2_with fail
        go_ret
        have hkl : k = xs.length := by omega
        have := HT.out
        rw [hkl, List.take_length, Hl.out, List.take_length] at this
        exact ⟨ret_b (decide_eq_true this).symm, n0, rfl⟩
  · have ht : binOp .neq 3 (.int .i64 (xs.length : Int)) (.int .i64 (ys.length : Int)) = pure (.bool true) := by rw [i_neq, decide_eq_true (by omega)]
    have Hl := hideIt hl
    clear hl
    go_enter Tryd.func23, Tryd.ntmps23
    go_wp2_with fail
    go_ret
    exact ⟨ret_b (decide_eq_false fun h => Hl.out (by rw [h])).symm, 0, rfl⟩
end Go.Proofs.YtpjgmekpnlpjaaaDoor
