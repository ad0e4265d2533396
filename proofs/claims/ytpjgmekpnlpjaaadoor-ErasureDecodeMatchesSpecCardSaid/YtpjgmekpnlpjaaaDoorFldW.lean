/-
  The field's smallest functions, walked: Valid, product, power, steps.
-/
import Derived.Test.YtpjgmekpnlpjaaaDoorRows
import Derived.Test.YtpjgmekpnlpjaaaDoorFldN
namespace Go.Proofs.YtpjgmekpnlpjaaaDoor
open Go.RowKit
set_option linter.unusedVariables false

/-- The table of the fields' polynomials, as it is laid. -/
def P17 : List Int := [0, 0, 0, 0, 0, 0, 0, 0, 285, 0, 0, 0, 0, 0, 0, 0, 69643]
structure Tabs (w : World) : Prop where
  lo : 0 < w.heap.size
  tab : ∀ j, j < 17 → w.cell? ⟨0, j, none⟩ = some (.int .i64 (P17.getD j 0))
theorem Tabs.keep {w w' : World} (h : Tabs w) (hb : Below w.heap.size w w') : Tabs w' :=
  ⟨Nat.lt_of_lt_of_le h.lo hb.size, fun j hj => (hb.cell (p := ⟨_, j, none⟩) h.lo).trans (h.tab j hj)⟩
theorem Tabs.at_m {w : World} (h : Tabs w) {m : Nat} (hm : Fm m) : w.cell? ⟨0, m, none⟩ = some (.int .i64 (pol m : Nat)) := by
  rcases hm with rfl | rfl
  · exact h.tab 8 (by decide)
  · exact h.tab 16 (by decide)

/-- Is it an element? -/
def vd (m a : Int) : Bool := decide ((m = 8 ∨ m = 16) ∧ 0 ≤ a ∧ a < 2 ^ m.toNat)
theorem vd_spec {m a : Int} (h : vd m a = true) : ∃ (k x : Nat), m = (k : Int) ∧ a = (x : Int) ∧ Fm k ∧ x < 2 ^ k := by
  unfold vd at h
  obtain ⟨h1, h2, h3⟩ := of_decide_eq_true h
  refine ⟨m.toNat, a.toNat, by omega, by omega, by unfold Fm; omega, ?_⟩
  rcases h1 with rfl | rfl
  · have h3 : a < 256 := h3
    show a.toNat < 256
    omega
  · have h3 : a < 65536 := h3
    show a.toNat < 65536
    omega
theorem vd_true {m a : Nat} (hm : Fm m) (ha : a < 2 ^ m) : vd (m : Int) (a : Int) = true := by
  unfold vd
  apply decide_eq_true
  rw [Int.toNat_natCast]
  refine ⟨by unfold Fm at hm; omega, by omega, ?_⟩
  exact_mod_cast ha

theorem bool_ret {a b : Bool} {w w' : World} (h : a = b) : Ending.returned (.bool a) = Ending.returned (.bool b) := by rw [h]

set_option maxHeartbeats 400000 in
theorem valid_any (m a : Int) (w : World) (hT : Tabs w) :
    Calls Tryd.prog 45 #[.int .i64 m, .int .i64 a] w fun e w' => e = .returned (.bool (vd m a)) ∧ w = w' := by
  by_cases h8 : m = 8
  · subst h8
    have hc := hT.tab 8 (by decide)
    have HT := hideIt hT
    have hv : vd 8 a = decide (0 ≤ a ∧ a < 256) := by
      unfold vd
      apply decide_eq_decide.2
      exact ⟨fun h => ⟨h.2.1, h.2.2⟩, fun h => ⟨by omega, h.1, h.2⟩⟩
    rw [hv]
    clear hv hT
    change w.cell? ⟨_, 8, none⟩ = some (.int .i64 285) at hc
    by_cases h0 : 0 ≤ a
    · by_cases h1 : a < 256
      · rw [decide_eq_true ⟨h0, h1⟩]
        go_enter Tryd.func45, Tryd.ntmps45
        go_wp2_with fail
        go_ret
        exact ⟨rfl, rfl⟩
      · rw [decide_eq_false (by omega)]
        go_enter Tryd.func45, Tryd.ntmps45
        go_wp2_with fail
        go_ret
        exact ⟨rfl, rfl⟩
    · rw [decide_eq_false (by omega)]
      go_enter Tryd.func45, Tryd.ntmps45
      go_wp2_with fail
      go_ret
      exact ⟨rfl, rfl⟩
  by_cases h16 : m = 16
  · subst h16
    have hc := hT.tab 16 (by decide)
    have HT := hideIt hT
    have hv : vd 16 a = decide (0 ≤ a ∧ a < 65536) := by
      unfold vd
      apply decide_eq_decide.2
      exact ⟨fun h => ⟨h.2.1, h.2.2⟩, fun h => ⟨by omega, h.1, h.2⟩⟩
    rw [hv]
    clear hv hT h8
    change w.cell? ⟨_, 16, none⟩ = some (.int .i64 69643) at hc
    by_cases h0 : 0 ≤ a
    · by_cases h1 : a < 65536
      · rw [decide_eq_true ⟨h0, h1⟩]
        go_enter Tryd.func45, Tryd.ntmps45
        go_wp2_with fail
        go_ret
        exact ⟨rfl, rfl⟩
      · rw [decide_eq_false (by omega)]
        go_enter Tryd.func45, Tryd.ntmps45
        go_wp2_with fail
        go_ret
        exact ⟨rfl, rfl⟩
    · rw [decide_eq_false (by omega)]
      go_enter Tryd.func45, Tryd.ntmps45
      go_wp2_with fail
      go_ret
      exact ⟨rfl, rfl⟩
  have hv : vd m a = false := by
    unfold vd
    apply decide_eq_false
    omega
  rw [hv]
  clear hv
  by_cases h0 : 0 ≤ m
  · by_cases h17 : m < 17
    · obtain ⟨k, rfl⟩ : ∃ k : Nat, m = (k : Int) := ⟨m.toNat, by omega⟩
      have hc := hT.tab k (by omega)
      have hz : P17.getD k 0 = 0 := by
        have : ∀ k : Fin 17, k.val ≠ 8 → k.val ≠ 16 → P17.getD k.val 0 = 0 := by decide
        exact this ⟨k, by omega⟩ (by show k ≠ 8; omega) (by show k ≠ 16; omega)
      rw [hz] at hc
      clear hT hz
      go_enter Tryd.func45, Tryd.ntmps45
      go_wp2_with fail
      go_ret
      exact ⟨rfl, rfl⟩
    · clear hT
      go_enter Tryd.func45, Tryd.ntmps45
      go_wp2_with fail
      go_ret
      exact ⟨rfl, rfl⟩
  · clear hT
    go_enter Tryd.func45, Tryd.ntmps45
    go_wp2_with fail
    go_ret
    exact ⟨rfl, rfl⟩

end Go.Proofs.YtpjgmekpnlpjaaaDoor
