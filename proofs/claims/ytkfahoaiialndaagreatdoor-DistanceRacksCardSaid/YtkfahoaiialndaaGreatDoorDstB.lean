/-
  Codes under the question whether units are sufficient: dcX, okX, and that dcX keeps what the numbers of losses stand on (dcd_x).
-/
import Derived.Test.YtkfahoaiialndaaGreatDoorD9c
import Derived.Test.YtkfahoaiialndaaGreatDoorD9d
import Derived.Test.YtkfahoaiialndaaGreatDoorD9f
import Derived.Test.YtkfahoaiialndaaGreatDoorD9g
import Derived.Test.YtkfahoaiialndaaGreatDoorD9h
import Derived.Test.YtkfahoaiialndaaGreatDoorDstA
namespace Go.Proofs.YtkfahoaiialndaaGreatDoor
set_option linter.unusedVariables false
set_option linter.unusedSimpArgs false

/-- The units are sufficient. -/
noncomputable def dcX (x : Cd) (hs : List Bool) : Bool := okB x hs && decide ((basL x hs).length = nC x)
/-- The code is valid and has so many units. -/
def okX (x : Cd) (N : Nat) : Bool := decide (checkX x = 0) && decide ((N : Int) = x.data + x.par.length)
/-- At most nine units. -/
structure Sm9 (x : Cd) : Prop where
  lo : 0 ≤ x.data
  hi : x.data ≤ 6
  par : x.par.length ≤ 5
  all : x.data + x.par.length ≤ 9
theorem Sm9.wid {x : Cd} (h : Sm9 x) : widX x = x.data + x.par.length := by
  have := h.lo; have := h.hi; have := h.par
  exact IntWalk.i64_in _ (by omega)
theorem check_vC {x : Cd} (hs : Sm9 x) (h : checkX x = 0) : vC x = true := by
  unfold checkX at h
  rw [hs.wid] at h
  by_cases q1 : wordB x.name = false
  · rw [if_pos q1] at h; exact absurd h (by decide)
  rw [if_neg q1] at h
  by_cases q2 : 12 < x.name.length
  · rw [if_pos q2] at h; exact absurd h (by decide)
  rw [if_neg q2] at h
  by_cases q3 : fieldB x.field = false
  · rw [if_pos q3] at h; exact absurd h (by decide)
  rw [if_neg q3] at h
  by_cases q4 : dataB x.data = false
  · rw [if_pos q4] at h; exact absurd h (by decide)
  rw [if_neg q4] at h
  by_cases q5 : x.par.length = 0
  · rw [if_pos q5] at h; exact absurd h (by decide)
  rw [if_neg q5] at h
  by_cases q6 : 32 < x.data + x.par.length
  · rw [if_pos q6] at h; exact absurd h (by decide)
  rw [if_neg q6] at h
  by_cases q7 : x.par.all (rowOkL x.field x.data) = false
  · rw [if_pos q7] at h; exact absurd h (by decide)
  have hf : x.field = 8 ∨ x.field = 16 := of_decide_eq_true (Bool.not_eq_false _ ▸ q3 : fieldB x.field = true)
  have hd : 1 ≤ x.data ∧ x.data ≤ 31 := of_decide_eq_true (Bool.not_eq_false _ ▸ q4 : dataB x.data = true)
  have hr : x.par.all (rowOkL x.field x.data) = true := Bool.not_eq_false _ ▸ q7
  unfold vC
  simp only [Bool.and_eq_true]
  refine ⟨⟨⟨?_, decide_eq_true hd.1⟩, decide_eq_true (by omega)⟩, ?_⟩
  · unfold vd
    refine decide_eq_true ⟨hf, Int.le_refl _, ?_⟩
    rcases hf with e | e <;> rw [e] <;> decide
  · rw [List.all_eq_true] at hr ⊢
    intro l hl
    have h1 := hr l hl
    unfold rowOkL at h1
    unfold rowOk
    rw [Bool.and_eq_true, Bool.and_eq_true] at h1 ⊢
    refine ⟨⟨h1.1.1, ?_⟩, h1.2⟩
    rw [List.all_eq_true]
    intro a ha
    have h2 := of_decide_eq_true (List.all_eq_true.1 h1.1.2 a ha)
    unfold vd
    refine decide_eq_true ⟨hf, h2.1, ?_⟩
    have h3 := h2.2
    unfold topF at h3
    rcases hf with e | e
    · rw [e] at h3 ⊢; rw [if_pos rfl] at h3; show a < 256; omega
    · rw [e] at h3 ⊢; rw [if_neg (by decide)] at h3; show a < 65536; omega
theorem okX_vc {x : Cd} {N : Nat} (hs : Sm9 x) (h : okX x N = true) : ∃ m n, VC x m n ∧ N = n + x.par.length ∧ N ≤ 9 := by
  unfold okX at h
  rw [Bool.and_eq_true] at h
  obtain ⟨m, n, hv⟩ := vC_spec (check_vC hs (of_decide_eq_true h.1))
  have h2 := of_decide_eq_true h.2
  have h3 := hv.d
  have h4 := hs.all
  exact ⟨m, n, hv, by omega, by omega⟩
theorem VC.sm {x : Cd} {m n : Nat} (h : VC x m n) (hs : Sm9 x) : Sm x :=
  ⟨by have := hs.hi; omega, by have := hs.par; omega, fun l hl => by have := (h.row l hl).1; have := h.d; have := hs.hi; omega⟩
theorem VC.vc {x : Cd} {m n : Nat} (h : VC x m n) : vC x = true := by
  unfold vC
  simp only [Bool.and_eq_true]
  have hd := h.d
  have hf := h.f
  have hm := h.fm
  refine ⟨⟨⟨?_, decide_eq_true (by have := h.pos; omega)⟩, decide_eq_true (by have := h.wid; omega)⟩, ?_⟩
  · rw [hf]
    exact vd_true (a := 0) hm (Nat.two_pow_pos m)
  · rw [List.all_eq_true]
    intro l hl
    obtain ⟨h1, h2, a, ha, h3⟩ := h.row l hl
    unfold rowOk
    rw [Bool.and_eq_true, Bool.and_eq_true]
    exact ⟨⟨decide_eq_true (by omega), List.all_eq_true.2 h2⟩, List.any_eq_true.2 ⟨a, ha, decide_eq_true h3⟩⟩
theorem okB_vc {x : Cd} {m n : Nat} (h : VC x m n) {hs : List Bool} (hl : hs.length = n + x.par.length) : okB x hs = true := by
  unfold okB
  rw [h.vc, Bool.true_and]
  have := h.d
  exact decide_eq_true (by omega)
theorem dcX_vc {x : Cd} {m n : Nat} (h : VC x m n) {hs : List Bool} (hl : hs.length = n + x.par.length) : dcX x hs = true ↔ (basL x hs).length = n := by
  unfold dcX
  rw [okB_vc h hl, Bool.true_and, show nC x = n from h.dn]
  exact ⟨of_decide_eq_true, decide_eq_true⟩
theorem dcd_x {x : Cd} {m n : Nat} (h : VC x m n) : Dcd (dcX x) (n + x.par.length) n where
  pos := h.pos
  cnt := fun a ha hd => by
    rw [dcX_vc h ha] at hd
    have := bas_count (m := m) (n := n) (G := gC x) (hv := hvF a) a.length
    rw [← basL_vc h, hd] at this
    exact this
  mono := fun a b ha hb hab hd => by
    have hG := gC_v h
    rw [dcX_vc h ha, ← all_recov h ha] at hd
    rw [dcX_vc h hb, ← all_recov h hb]
    intro u hu
    have h1 := (recov_vc h a u).1 (hd u (by omega))
    rw [recov_vc h]
    refine Dep.trans h.fm (fun i j => hG _ j) h1 fun k hk => ?_
    rw [basL_vc h] at hk ⊢
    obtain ⟨h2, h3⟩ := bas_at hk
    have h4 := bas_span (m := m) (n := n) (G := gC x) (hv := hvF b) h.fm hG b.length ((bas m n (gC x) (hvF a) a.length).getD k 0) (by omega) (hab _ h3)
    show Dep m n _ _ (gC x ((basL x a).getD k 0))
    rw [basL_vc h a]
    exact h4
theorem dcX_all {x : Cd} {m n : Nat} (h : VC x m n) : dcX x (List.replicate (n + x.par.length) true) = true := by
  have hl : (List.replicate (n + x.par.length) true).length = n + x.par.length := List.length_replicate
  have hG := gC_v h
  rw [dcX_vc h hl, ← all_recov h hl]
  intro u hu
  rw [recov_vc h, basL_vc h]
  exact bas_span h.fm hG _ u hu (all_get (by omega))

end Go.Proofs.YtkfahoaiialndaaGreatDoor
