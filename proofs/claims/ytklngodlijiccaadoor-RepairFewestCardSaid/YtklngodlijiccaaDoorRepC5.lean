/-
  A plan has the fewest terms; the checks as rows of units.
-/
import Derived.Test.YtklngodlijiccaaDoorRepC4
namespace Go.Proofs.YtklngodlijiccaaDoor
open Go.RowKit
set_option linter.unusedVariables false
variable {x : Cd} {m n : Nat}
theorem few_rec (h : VC x m n) {hs : List Bool} (hl : hs.length = n + x.par.length) {u : Nat} (hok : okB x hs = true) (hu : u < hs.length) : (besK x hs u x.par.length).isSome = true ↔ (combR x (ot hs u) (u : Int)).2 = 0 := by
  constructor
  · intro hb
    have hr := (bes0_rec hok hu).1 ((besK_iff h hl hok hu).1 hb)
    rcases Decidable.em ((combR x (ot hs u) (u : Int)).2 = 0) with h0 | h0
    · exact h0
    · unfold bes0 at hr
      rw [if_neg h0] at hr
      cases hr
  · intro h0
    refine besK_some _ ?_
    unfold bes0
    rw [if_pos h0]
    rfl
theorem few_base {hs : List Bool} {u : Nat} {L : List (Nat × Nat)} (hL : besK x hs u x.par.length = some L) (h0 : (combR x (ot hs u) (u : Int)).2 = 0) : L.length ≤ (combR x (ot hs u) (u : Int)).1.length :=
  (besK_min _ L hL).1 _ (by unfold bes0; rw [if_pos h0])
theorem few_chk (h : VC x m n) {hs : List Bool} (hl : hs.length = n + x.par.length) {u : Nat} {L : List (Nat × Nat)} (hL : besK x hs u x.par.length = some L) : ∀ l ∈ chksR x (u : Int), (∀ q ∈ l, q < hs.length) ∧ l.length ≤ 1000 ∧ 1 ≤ l.length ∧ (avl hs u l = true → L.length ≤ l.length - 1) := fun l hl0 => by
  unfold chksR at hl0
  split at hl0
  · unfold chks at hl0
    obtain ⟨hm, hz⟩ := List.mem_filter.1 hl0
    obtain ⟨i, hi, rfl⟩ := List.mem_map.1 hm
    have hi' := List.mem_range.1 hi
    have hu : u ∈ chk x i := by rw [hasZ_nat] at hz; exact of_decide_eq_true hz
    have ht := trC_len h hu
    refine ⟨fun q hq => ?_, ?_, by omega, fun ha => ?_⟩
    · rcases (mem_chk h).1 hq with ⟨h1, _⟩ | h1 <;> omega
    · unfold chk
      rw [List.length_append]
      have h1 := List.length_filter_le (fun j => decide (gC x (x.data.toNat + i) j ≠ 0)) (List.range x.data.toNat)
      rw [List.length_range] at h1
      have := h.d
      have := h.wid
      simp only [List.length_singleton]
      omega
    · have := (besK_min _ L hL).2 i hi' (by unfold cand; rw [hz, ha]; rfl)
      omega
  · cases hl0
theorem chksR_short (h : VC x m n) (u : Int) : (chksR x u).length ≤ 1000 := by
  unfold chksR
  split
  · unfold chks
    have h1 := List.length_filter_le (fun l => hasZ l u) ((List.range x.par.length).map (chk x))
    rw [List.length_map, List.length_range] at h1
    have := h.wid
    omega
  · simp
def NmRes (w : World) (ps : List (List Nat)) (e : Ending) (w' : World) : Prop := ∃ F cf, e = .returned (.slice F ps.length cf) ∧ PM w' w'.heap.size F (ps.map nI) ∧ Below w.heap.size w w'
theorem rchecks_nm (x : Cd) (A : Option Addr) (c : Nat) (w : World) (hx : CIn w x A) (hsm : Sm x) (u : Int) :
    Calls Tryd.prog 15 #[x.v A c, .int .i64 u] w (NmRes w (chksR x u)) := by
  refine (rchks_any x A c w hx hsm u).mono ?_
  rintro e w' ⟨v, rfl, hj, hb⟩
  obtain ⟨F, cf, rfl, _, hp⟩ := hj.pm
  exact ⟨F, cf, rfl, hp, hb⟩
theorem PM.nrow {w : World} {B : Nat} {A : Option Addr} {ps : List (List Nat)} (h : PM w B A (ps.map nI)) {j : Nat} (hj : j < ps.length) :
    ∃ b o A' c', A = some ⟨b, o, none⟩ ∧ b < B ∧ w.cell? ⟨b, o + j, none⟩ = some (.slice A' ps[j].length c') ∧ Sl w B A' 1 ps[j].length ((nI ps[j]).map iv) := by
  obtain ⟨b, o, A', c', hA, hb, hc, hs⟩ := h.row (j := j) (by rw [List.length_map]; exact hj)
  rw [List.getElem_map] at hc hs
  rw [nI_len] at hc hs
  exact ⟨b, o, A', c', hA, hb, hc, hs⟩
theorem avl_take {hs : List Bool} {u : Nat} {l : List Nat} {j : Nat} (h : j < l.length) : avl hs u (l.take (j + 1)) = (avl hs u (l.take j) && ((ot hs u).getD l[j] false || decide (l[j] = u))) := by
  unfold avl
  rw [take_snoc l j h, List.all_append]
  simp
theorem ot_cells {W : World} {g : Nat} {hs : List Bool} {u : Nat} (h : Sl W W.heap.size (some ⟨g, 0, none⟩) 1 hs.length ((ot hs u).map bl)) {q : Nat} (hq : q < hs.length) : W.cell? ⟨g, q, none⟩ = some (.bool ((ot hs u).getD q false)) := by
  obtain ⟨b, o, hA, _, hc⟩ := h.2 (by rw [List.length_map, ot_len]; omega)
  injection hA with hA
  injection hA with h1 h2
  subst h1 h2
  have hq' : q < (ot hs u).length := by rw [ot_len]; exact hq
  have := hc q (.bool ((ot hs u).getD q false)) (by rw [List.getElem?_map, List.getD_eq_getElem?_getD, List.getElem?_eq_getElem hq']; rfl)
  rwa [Nat.zero_add] at this
end Go.Proofs.YtklngodlijiccaaDoor
