/-
  Which losses a stripe survives, as plain functions over the question whether units are sufficient: further units (ftl, leftN, Fat), racks (nmL, lsR, racksN, RFat), and what these numbers keep. No program stands behind this text.
-/
import Derived.WalkKit
namespace Go.Proofs.YtkfahoaiialndaaGreatDoor
set_option linter.unusedVariables false
set_option linter.unusedSectionVars false

theorem nodup_len {α : Type} [DecidableEq α] : ∀ {A B : List α}, A.Nodup → (∀ x ∈ A, x ∈ B) → A.length ≤ B.length
  | [], B, _, _ => Nat.zero_le _
  | a :: A, B, h, hs => by
    have h1 := List.nodup_cons.1 h
    have ha := hs a List.mem_cons_self
    have := nodup_len (B := B.erase a) h1.2 fun x hx => (List.mem_erase_of_ne (fun e => by subst e; exact h1.1 hx)).2 (hs x (List.mem_cons_of_mem _ hx))
    rw [List.length_erase_of_mem ha] at this
    have := List.length_pos_of_mem ha
    simp only [List.length_cons]
    omega
theorem nodup_lt {l : List Nat} (h : l.Pairwise (· < ·)) : l.Nodup := h.imp fun h => Nat.ne_of_lt h

/-- The units without those of a list. -/
def wo (hs : List Bool) (S : List Nat) : List Bool := S.foldl (fun h i => h.set i false) hs
theorem wo_len : ∀ (S : List Nat) (hs : List Bool), (wo hs S).length = hs.length
  | [], hs => rfl
  | i :: S, hs => by
    show (wo (hs.set i false) S).length = _
    rw [wo_len S, List.length_set]
theorem getD_set (hs : List Bool) (i j : Nat) : (hs.set i false).getD j false = (hs.getD j false && !decide (j = i)) := by
  rw [List.getD_eq_getElem?_getD, List.getD_eq_getElem?_getD, List.getElem?_set]
  by_cases h : i = j
  · subst h
    rw [if_pos rfl]
    split <;> simp
  · rw [if_neg h, show decide (j = i) = false from decide_eq_false fun e => h e.symm]
    simp
theorem wo_get : ∀ (S : List Nat) (hs : List Bool) (j : Nat), (wo hs S).getD j false = (hs.getD j false && !decide (j ∈ S))
  | [], hs, j => by simp [wo]
  | i :: S, hs, j => by
    show (wo (hs.set i false) S).getD j false = _
    rw [wo_get S, getD_set]
    by_cases h1 : j = i
    · subst h1; simp
    · by_cases h2 : j ∈ S
      · simp [h1, h2]
      · simp [h1, h2]
theorem bl_ext {a b : List Bool} (hl : a.length = b.length) (h : ∀ i, i < a.length → a.getD i false = b.getD i false) : a = b := by
  apply List.ext_getElem hl
  intro i h1 h2
  have := h i h1
  simpa [List.getD_eq_getElem?_getD, h1, h2] using this
theorem wo_congr {hs : List Bool} {S T : List Nat} (h : ∀ i, i < hs.length → hs.getD i false = true → (i ∈ S ↔ i ∈ T)) : wo hs S = wo hs T := by
  refine bl_ext (by rw [wo_len, wo_len]) fun i hi => ?_
  rw [wo_len] at hi
  rw [wo_get, wo_get]
  by_cases hp : hs.getD i false = true
  · rw [hp, decide_eq_decide.2 (h i hi hp)]
  · rw [Bool.eq_false_iff.2 hp]; rfl
theorem wo_app (hs : List Bool) (S T : List Nat) : wo (wo hs S) T = wo hs (S ++ T) := by
  unfold wo; rw [List.foldl_append]

/-- How many units are present. -/
def cntK (hs : List Bool) (k : Nat) : Nat := ((List.range k).filter fun i => hs.getD i false).length
abbrev cntT (hs : List Bool) : Nat := cntK hs hs.length
theorem cntK_next (hs : List Bool) (k : Nat) : cntK hs (k + 1) = cntK hs k + if hs.getD k false = true then 1 else 0 := by
  unfold cntK
  rw [List.range_succ, List.filter_append, List.length_append]
  congr 1
  simp only [List.filter_cons, List.filter_nil]
  split <;> rfl
theorem cntK_le (hs : List Bool) : ∀ k, cntK hs k ≤ k
  | 0 => Nat.le_refl _
  | k + 1 => by rw [cntK_next]; have := cntK_le hs k; split <;> omega

/-- What is known of the question whether units are sufficient. -/
structure Dcd (dc : List Bool → Bool) (N n : Nat) : Prop where
  mono : ∀ a b, a.length = N → b.length = N → (∀ i, a.getD i false = true → b.getD i false = true) → dc a = true → dc b = true
  cnt : ∀ a, a.length = N → dc a = true → n ≤ cntT a
  pos : 1 ≤ n

/-- The first set of n further units, from an index on, without which the others are not sufficient. -/
def ftl (dc : List Bool → Bool) (hs : List Bool) : Nat → List Nat → Nat → Option (List Nat)
  | 0, set, _ => if dc (wo hs set) = true then none else some set
  | n + 1, set, from_ => (List.range' from_ (hs.length - from_)).findSome? fun i => if hs.getD i false = true then ftl dc hs n (set ++ [i]) (i + 1) else none

section
variable {dc : List Bool → Bool} {hs : List Bool}
theorem ftl_some : ∀ {n : Nat} {set : List Nat} {fr : Nat} {l : List Nat}, ftl dc hs n set fr = some l → ∃ S, l = set ++ S ∧ S.length = n ∧ S.Pairwise (· < ·) ∧ (∀ i ∈ S, fr ≤ i ∧ i < hs.length ∧ hs.getD i false = true) ∧ dc (wo hs l) = false
  | 0, set, fr, l, h => by
    unfold ftl at h
    split at h
    · cases h
    · rename_i hd
      injection h with h
      subst h
      exact ⟨[], (List.append_nil _).symm, rfl, List.Pairwise.nil, fun i hi => (by cases hi), Bool.eq_false_iff.2 hd⟩
  | n + 1, set, fr, l, h => by
    unfold ftl at h
    obtain ⟨i, hi, hf⟩ := List.exists_of_findSome?_eq_some h
    rw [List.mem_range'_1] at hi
    by_cases hp : hs.getD i false = true
    · rw [if_pos hp] at hf
      obtain ⟨S, h1, h2, h3, h4, h5⟩ := ftl_some hf
      refine ⟨i :: S, by rw [h1, List.append_assoc]; rfl, by rw [List.length_cons, h2], List.pairwise_cons.2 ⟨fun j hj => by have := h4 j hj; omega, h3⟩, fun j hj => ?_, h5⟩
      rcases List.mem_cons.1 hj with rfl | hj
      · exact ⟨hi.1, by omega, hp⟩
      · have := h4 j hj; exact ⟨by omega, this.2⟩
    · rw [if_neg hp] at hf; cases hf
theorem ftl_none : ∀ {n : Nat} {set : List Nat} {fr : Nat}, ftl dc hs n set fr = none → ∀ S : List Nat, S.length = n → S.Pairwise (· < ·) → (∀ i ∈ S, fr ≤ i ∧ i < hs.length ∧ hs.getD i false = true) → dc (wo hs (set ++ S)) = true
  | 0, set, fr, h, S, h1, h2, h3 => by
    obtain rfl := List.length_eq_zero_iff.1 h1
    rw [List.append_nil]
    unfold ftl at h
    split at h
    · assumption
    · cases h
  | n + 1, set, fr, h, [], h1, _, _ => by cases h1
  | n + 1, set, fr, h, i :: S, h1, h2, h3 => by
    unfold ftl at h
    have hi := h3 i List.mem_cons_self
    have h4 := List.findSome?_eq_none_iff.1 h i (List.mem_range'_1.2 ⟨hi.1, by omega⟩)
    rw [if_pos hi.2.2] at h4
    have h5 := List.pairwise_cons.1 h2
    have := ftl_none h4 S (by simpa using h1) h5.2 fun j hj => ⟨h5.1 j hj, (h3 j (List.mem_cons_of_mem _ hj)).2⟩
    rwa [List.append_assoc] at this
end
/-- There is a set of j present units without which the others are not sufficient. -/
def Fat (dc : List Bool → Bool) (hs : List Bool) (j : Nat) : Prop := ∃ T : List Nat, T.Nodup ∧ T.length = j ∧ (∀ i ∈ T, i < hs.length ∧ hs.getD i false = true) ∧ dc (wo hs T) = false
theorem sorted (N : Nat) {T : List Nat} (hT : T.Nodup) (h : ∀ i ∈ T, i < N) : ∃ S : List Nat, S.Pairwise (· < ·) ∧ S.length = T.length ∧ ∀ i, i ∈ S ↔ i ∈ T := by
  have hm : ∀ i, i ∈ (List.range N).filter (fun i => decide (i ∈ T)) ↔ i ∈ T := fun i => by
    rw [List.mem_filter, List.mem_range, decide_eq_true_eq]
    exact ⟨fun q => q.2, fun q => ⟨h i q, q⟩⟩
  have hp : ((List.range N).filter (fun i => decide (i ∈ T))).Pairwise (· < ·) := List.pairwise_lt_range.filter _
  exact ⟨_, hp, Nat.le_antisymm (nodup_len (nodup_lt hp) fun i hi => (hm i).1 hi) (nodup_len hT fun i hi => (hm i).2 hi), hm⟩
theorem ftl_fat (dc : List Bool → Bool) (hs : List Bool) (j : Nat) : ftl dc hs j [] 0 = none ↔ ¬ Fat dc hs j := by
  constructor
  · rintro h ⟨T, hT, hl, hp, hd⟩
    obtain ⟨S, h1, h2, h3⟩ := sorted hs.length hT fun i hi => (hp i hi).1
    have := ftl_none h S (by rw [h2, hl]) h1 fun i hi => ⟨Nat.zero_le _, hp i ((h3 i).1 hi)⟩
    rw [List.nil_append, wo_congr (T := T) fun i _ _ => h3 i, hd] at this
    cases this
  · intro h
    cases hq : ftl dc hs j [] 0 with
    | none => rfl
    | some l =>
      obtain ⟨S, h1, h2, h3, h4, h5⟩ := ftl_some hq
      rw [List.nil_append] at h1
      subst h1
      exact absurd ⟨l, nodup_lt h3, h2, fun i hi => (h4 i hi).2, h5⟩ h
theorem ftl_isSome (dc : List Bool → Bool) (hs : List Bool) (j : Nat) : (ftl dc hs j [] 0).isSome = true ↔ Fat dc hs j := by
  have := ftl_fat dc hs j
  cases h : ftl dc hs j [] 0 with
  | none => exact ⟨fun q => (by cases q), fun q => absurd q (this.1 h)⟩
  | some l => exact ⟨fun _ => Classical.byContradiction fun q => (by rw [this.2 q] at h; cases h), fun _ => rfl⟩

/-- The first number from f on, of k numbers, of which P holds; the one behind them if there is none. -/
def lfN (P : Nat → Bool) : Nat → Nat → Nat
  | 0, f => f
  | k + 1, f => if P f = true then f else lfN P k (f + 1)
theorem lfN_spec (P : Nat → Bool) : ∀ k f, f ≤ lfN P k f ∧ lfN P k f ≤ f + k ∧ (∀ j, f ≤ j → j < lfN P k f → P j = false) ∧ (lfN P k f < f + k → P (lfN P k f) = true)
  | 0, f => ⟨Nat.le_refl _, Nat.le_refl _, fun j h1 h2 => absurd h2 (by show ¬ j < f; omega), fun h => absurd h (by show ¬ f < f + 0; omega)⟩
  | k + 1, f => by
    unfold lfN
    by_cases h : P f = true
    · rw [if_pos h]
      exact ⟨Nat.le_refl _, by omega, fun j h1 h2 => by omega, fun _ => h⟩
    · rw [if_neg h]
      obtain ⟨h1, h2, h3, h4⟩ := lfN_spec P k (f + 1)
      refine ⟨by omega, by omega, fun j hj1 hj2 => ?_, fun hh => h4 (by omega)⟩
      by_cases e : j = f
      · rw [e]; exact Bool.eq_false_iff.2 h
      · exact h3 j (by omega) hj2
/-- How many further units may be missing. -/
def leftN (dc : List Bool → Bool) (hs : List Bool) : Nat := lfN (fun f => (ftl dc hs (f + 1) [] 0).isSome) (min 4 (cntT hs)) 0
def leftZ (dc : List Bool → Bool) (ok : Bool) (hs : List Bool) : Int := if ok = true ∧ dc hs = true then (leftN dc hs : Int) else -1
def fatZ (dc : List Bool → Bool) (ok : Bool) (hs : List Bool) : List Nat := if ok = true ∧ dc hs = true ∧ leftN dc hs ≠ 4 then (ftl dc hs (leftN dc hs + 1) [] 0).getD [] else []
section
variable {dc : List Bool → Bool} {hs : List Bool}
theorem left_le : leftN dc hs ≤ 4 ∧ leftN dc hs ≤ cntT hs := by
  have := (lfN_spec (fun f => (ftl dc hs (f + 1) [] 0).isSome) (min 4 (cntT hs)) 0).2.1
  unfold leftN; omega
theorem left_no (hd : dc hs = true) {j : Nat} (h : j ≤ leftN dc hs) : ¬ Fat dc hs j := by
  cases j with
  | zero =>
    rintro ⟨T, _, hl, _, h2⟩
    obtain rfl := List.length_eq_zero_iff.1 hl
    rw [show wo hs [] = hs from rfl, hd] at h2
    cases h2
  | succ j =>
    intro hF
    have := (lfN_spec (fun f => (ftl dc hs (f + 1) [] 0).isSome) (min 4 (cntT hs)) 0).2.2.1 j (Nat.zero_le _) h
    rw [(ftl_isSome dc hs (j + 1)).2 hF] at this
    cases this
theorem left_fat (h : leftN dc hs < min 4 (cntT hs)) : Fat dc hs (leftN dc hs + 1) := by
  have := (lfN_spec (fun f => (ftl dc hs (f + 1) [] 0).isSome) (min 4 (cntT hs)) 0).2.2.2 (by show leftN dc hs < _; omega)
  exact (ftl_isSome dc hs (leftN dc hs + 1)).1 this
/-- Not more than f lost units, whichever: the others are sufficient. -/
theorem keeps (hd : dc hs = true) {T : List Nat} (hT : T.length ≤ leftN dc hs) : dc (wo hs T) = true := by
  -- the present ones among them, once
  obtain ⟨S, hS, hm⟩ : ∃ S : List Nat, S.Pairwise (· < ·) ∧ ∀ i, i ∈ S ↔ i < hs.length ∧ hs.getD i false = true ∧ i ∈ T := by
    refine ⟨(List.range hs.length).filter (fun i => hs.getD i false && decide (i ∈ T)), List.pairwise_lt_range.filter _, fun i => ?_⟩
    rw [List.mem_filter, List.mem_range, Bool.and_eq_true, decide_eq_true_eq]
  have hl : S.length ≤ T.length := nodup_len (nodup_lt hS) fun i hi => ((hm i).1 hi).2.2
  have hno := left_no hd (j := S.length) (by omega)
  have he : wo hs T = wo hs S := wo_congr fun i hi hp => ⟨fun q => (hm i).2 ⟨hi, hp, q⟩, fun q => ((hm i).1 q).2.2⟩
  rw [he]
  exact Classical.byContradiction fun hd2 => hno ⟨S, nodup_lt hS, rfl, fun i hi => ⟨((hm i).1 hi).1, ((hm i).1 hi).2.1⟩, Bool.eq_false_iff.2 hd2⟩
end

section
variable {dc : List Bool → Bool} {N n : Nat} (D : Dcd dc N n)
include D
theorem none_no {hs : List Bool} (hl : hs.length = N) (h0 : ∀ i, hs.getD i false = false) : dc hs = false := by
  refine Bool.eq_false_iff.2 fun h => ?_
  have h1 := D.cnt hs hl h
  have h2 := D.pos
  have : cntT hs = 0 := by
    unfold cntT cntK
    rw [List.length_eq_zero_iff, List.filter_eq_nil_iff]
    intro i _
    rw [h0 i]
    decide
  omega
theorem left_lt {hs : List Bool} (hl : hs.length = N) (hd : dc hs = true) : leftN dc hs < cntT hs := by
  refine Nat.lt_of_not_le fun h => ?_
  have h1 := (left_le (dc := dc) (hs := hs)).2
  refine left_no hd (j := cntT hs) (by omega) ⟨(List.range hs.length).filter fun i => hs.getD i false, (nodup_lt (List.pairwise_lt_range.filter _)), rfl, fun i hi => ?_, ?_⟩
  · rw [List.mem_filter, List.mem_range] at hi; exact hi
  · refine none_no D (by rw [wo_len, hl]) fun i => ?_
    rw [wo_get]
    by_cases hp : hs.getD i false = true
    · have hi : i < hs.length := Nat.lt_of_not_le fun hge => by simp [List.getD_eq_getElem?_getD, List.getElem?_eq_none hge] at hp
      have : i ∈ (List.range hs.length).filter fun i => hs.getD i false := List.mem_filter.2 ⟨List.mem_range.2 hi, hp⟩
      simp only [this, decide_true]; rw [hp]; rfl
    · rw [Bool.eq_false_iff.2 hp]; rfl
/-- What Fatal returns. -/
theorem fatal_is {hs : List Bool} (hl : hs.length = N) (hd : dc hs = true) (h4 : leftN dc hs ≠ 4) :
    ∃ l, ftl dc hs (leftN dc hs + 1) [] 0 = some l ∧ l.length = leftN dc hs + 1 ∧ l.Pairwise (· < ·) ∧ (∀ i ∈ l, i < hs.length ∧ hs.getD i false = true) ∧ dc (wo hs l) = false := by
  have h1 := left_lt D hl hd
  have h2 := (left_le (dc := dc) (hs := hs)).1
  have hF := left_fat (dc := dc) (hs := hs) (by omega)
  rw [← ftl_isSome] at hF
  obtain ⟨l, hq⟩ := Option.isSome_iff_exists.1 hF
  obtain ⟨S, e, h3, h4, h5, h6⟩ := ftl_some hq
  rw [List.nil_append] at e
  subst e
  exact ⟨l, hq, h3, h4, fun i hi => (h5 i hi).2, h6⟩
/-- A set that holds a fatal one of fewer units. -/
theorem Fat.more {hs : List Bool} (hl : hs.length = N) {T : List Nat} (hd : dc (wo hs T) = false) {T' : List Nat} (h : ∀ i, i < hs.length → hs.getD i false = true → i ∈ T → i ∈ T') : dc (wo hs T') = false := by
  refine Bool.eq_false_iff.2 fun h2 => ?_
  have := D.mono _ (wo hs T) (by rw [wo_len, hl]) (by rw [wo_len, hl]) (fun i hi => ?_) h2
  · rw [hd] at this; cases this
  · rw [wo_get, Bool.and_eq_true] at hi ⊢
    have hp := hi.1
    have hlt : i < hs.length := Nat.lt_of_not_le fun hge => by simp [List.getD_eq_getElem?_getD, List.getElem?_eq_none hge] at hp
    refine ⟨hp, ?_⟩
    rw [Bool.not_eq_true', decide_eq_false_iff_not]
    intro q
    have h3 := h i hlt hp q
    rw [decide_eq_true h3] at hi
    cases hi.2
omit D in
theorem cnt_drop {hs : List Bool} {u : Nat} (hu : u < hs.length) (hp : hs.getD u false = true) : cntT (wo hs [u]) + 1 = cntT hs := by
  have : ∀ k, k ≤ hs.length → cntK (wo hs [u]) k + (if u < k then 1 else 0) = cntK hs k := fun k => by
    induction k with
    | zero => intro _; simp [cntK]
    | succ k ih =>
      intro hk
      have h1 := ih (by omega)
      by_cases e : k = u
      · subst e
        have w1 : (wo hs [k]).getD k false = false := by rw [wo_get]; simp
        rw [cntK_next, cntK_next, w1, hp, if_neg (by decide), if_pos rfl, if_pos (Nat.lt_succ_self k)]
        rw [if_neg (Nat.lt_irrefl k)] at h1
        omega
      · have w2 : (wo hs [u]).getD k false = hs.getD k false := by rw [wo_get]; simp [e]
        rw [cntK_next, cntK_next, w2, ← h1]
        have e2 : (u < k + 1) ↔ (u < k) := by omega
        simp only [e2]
        omega
  have h := this hs.length (Nat.le_refl _)
  rw [if_pos hu] at h
  unfold cntT
  rw [wo_len]
  exact h
/-- One more missing unit. -/
theorem steps {hs : List Bool} (hl : hs.length = N) (ok : Bool) {u : Nat} (hu : u < hs.length) : leftZ dc ok (wo hs [u]) ≤ leftZ dc ok hs ∧ leftZ dc ok hs - 1 ≤ leftZ dc ok (wo hs [u]) := by
  by_cases hp : hs.getD u false = true
  · have hl' : (wo hs [u]).length = N := by rw [wo_len, hl]
    have hcnt := cnt_drop hu hp
    have hmem : ∀ (T : List Nat) i, (wo hs [u]).getD i false = true ↔ hs.getD i false = true ∧ i ≠ u := fun T i => by
      rw [wo_get, Bool.and_eq_true, Bool.not_eq_true', decide_eq_false_iff_not, List.mem_singleton]
    have hmono : dc (wo hs [u]) = true → dc hs = true := D.mono _ _ hl' hl fun i hi => ((hmem [] i).1 hi).1
    unfold leftZ
    cases ok with
    | false => rw [if_neg (fun h => by cases h.1), if_neg (fun h => by cases h.1)]; omega
    | true =>
      by_cases hd : dc hs = true
      · rw [if_pos (⟨rfl, hd⟩ : true = true ∧ dc hs = true)]
        by_cases hd' : dc (wo hs [u]) = true
        · rw [if_pos (⟨rfl, hd'⟩ : true = true ∧ dc (wo hs [u]) = true)]
          have h1 := left_lt D hl hd
          have h2 := left_lt D hl' hd'
          have h3 := left_le (dc := dc) (hs := hs)
          have h4 := left_le (dc := dc) (hs := wo hs [u])
          constructor
          · -- a fatal set of the one is one of the other
            refine Int.ofNat_le.2 (Nat.le_of_not_lt fun hlt => ?_)
            obtain ⟨T, hT, hTl, hTp, hTd⟩ := left_fat (dc := dc) (hs := hs) (by omega)
            have hsub : wo hs [u] = wo hs [u] := rfl
            have hfd : dc (wo (wo hs [u]) (T.erase u)) = false := by
              rw [wo_app]
              refine Fat.more D hl hTd fun i _ _ hi => ?_
              by_cases e : i = u
              · rw [e]; exact List.mem_append_left _ (List.mem_singleton.2 rfl)
              · exact List.mem_append_right _ ((List.mem_erase_of_ne e).2 hi)
            have hk := keeps (hs := wo hs [u]) hd' (T := T.erase u) (by have := List.length_erase_le (a := u) (l := T); omega)
            rw [hfd] at hk
            cases hk
          · have : leftN dc hs ≤ leftN dc (wo hs [u]) + 1 := Nat.le_of_not_lt fun hlt => by
              obtain ⟨T, hT, hTl, hTp, hTd⟩ := left_fat (dc := dc) (hs := wo hs [u]) (by omega)
              rw [wo_app] at hTd
              have hk := keeps (hs := hs) hd (T := [u] ++ T) (by simp; omega)
              rw [hTd] at hk
              cases hk
            omega
        · rw [if_neg (fun h => hd' h.2)]
          have : leftN dc hs = 0 := Nat.eq_zero_of_not_pos fun hpos => hd' (keeps (hs := hs) hd (T := [u]) (by simp; omega))
          omega
      · rw [if_neg (fun h => hd (hmono h.2)), if_neg (fun h => hd h.2)]; omega
  · have : wo hs [u] = hs := by
      refine bl_ext (wo_len _ _) fun i _ => ?_
      rw [wo_get]
      by_cases e : i = u
      · subst e; rw [Bool.eq_false_iff.2 hp]; rfl
      · simp [e]
    rw [this]
    omega

omit D in
theorem all_get {N i : Nat} (h : i < N) : (List.replicate N true).getD i false = true := by
  rw [List.getD_eq_getElem?_getD, List.getElem?_replicate, if_pos h]; rfl
omit D in
theorem cnt_all (N q : Nat) : ∀ k, k ≤ N → cntK (wo (List.replicate N true) (List.range q)) k = k - q
  | 0, _ => by simp [cntK]
  | k + 1, h => by
    have ih := cnt_all N q k (by omega)
    rw [cntK_next, ih, wo_get, all_get (show k < N by omega), Bool.true_and]
    by_cases e : k < q
    · rw [decide_eq_true (List.mem_range.2 e), if_neg (by decide)]; omega
    · rw [decide_eq_false (fun h => e (List.mem_range.1 h)), if_pos (by decide)]; omega
/-- Not more losses than parity units. -/
theorem bounds {p : Nat} (hN : N = n + p) (hd : dc (List.replicate N true) = true) : leftN dc (List.replicate N true) ≤ p := by
  refine Nat.le_of_not_lt fun hlt => ?_
  have h1 := keeps (hs := List.replicate N true) hd (T := List.range (p + 1)) (by rw [List.length_range]; exact hlt)
  have h2 := D.cnt _ (by rw [wo_len, List.length_replicate]) h1
  have h3 := D.pos
  unfold cntT at h2
  rw [wo_len, List.length_replicate, cnt_all N (p + 1) N (Nat.le_refl _)] at h2
  omega
end

/-- The names of the racks, in the order in which they come first. -/
def nmK (racks : List Int) : Nat → List Int
  | 0 => []
  | k + 1 => if racks.getD k 0 ∈ nmK racks k then nmK racks k else nmK racks k ++ [racks.getD k 0]
abbrev nmL (racks : List Int) : List Int := nmK racks racks.length
theorem nmK_nodup (racks : List Int) : ∀ k, (nmK racks k).Nodup
  | 0 => List.nodup_nil
  | k + 1 => by
    unfold nmK
    split
    · exact nmK_nodup racks k
    · rename_i h
      rw [List.nodup_append]
      exact ⟨nmK_nodup racks k, by simp, fun a ha b hb => by rw [List.mem_singleton] at hb; subst hb; exact fun e => h (e ▸ ha)⟩
theorem nmK_mem (racks : List Int) (r : Int) : ∀ k, r ∈ nmK racks k ↔ ∃ i, i < k ∧ racks.getD i 0 = r
  | 0 => ⟨fun h => (by cases h), fun ⟨i, h, _⟩ => absurd h (Nat.not_lt_zero i)⟩
  | k + 1 => by
    have ih := nmK_mem racks r k
    have hor : (∃ i, i < k + 1 ∧ racks.getD i 0 = r) ↔ (∃ i, i < k ∧ racks.getD i 0 = r) ∨ racks.getD k 0 = r := by
      constructor
      · rintro ⟨i, hi, h⟩
        by_cases e : i = k
        · exact .inr (e ▸ h)
        · exact .inl ⟨i, by omega, h⟩
      · rintro (⟨i, hi, h⟩ | h)
        · exact ⟨i, by omega, h⟩
        · exact ⟨k, by omega, h⟩
    rw [hor, ← ih, show nmK racks (k + 1) = if racks.getD k 0 ∈ nmK racks k then nmK racks k else nmK racks k ++ [racks.getD k 0] from rfl]
    split
    · rename_i h
      exact ⟨fun q => .inl q, fun q => q.elim id fun e => e ▸ h⟩
    · rw [List.mem_append, List.mem_singleton]
      exact ⟨fun q => q.imp id Eq.symm, fun q => q.imp id Eq.symm⟩
theorem nm_mem (racks : List Int) (r : Int) : r ∈ nmL racks ↔ r ∈ racks := by
  rw [nmK_mem]
  constructor
  · rintro ⟨i, hi, h⟩
    rw [← h]
    have : racks.getD i 0 = racks[i] := by simp [List.getD_eq_getElem?_getD, hi]
    rw [this]; exact List.getElem_mem hi
  · intro h
    obtain ⟨i, hi, e⟩ := List.getElem_of_mem h
    exact ⟨i, hi, by simp [List.getD_eq_getElem?_getD, hi, e]⟩
/-- The units of a rack. -/
def rkS (racks : List Int) (nm : Int) : List Nat := (List.range racks.length).filter fun u => decide (racks.getD u 0 = nm)
theorem rkS_mem (racks : List Int) (nm : Int) (u : Nat) : u ∈ rkS racks nm ↔ u < racks.length ∧ racks.getD u 0 = nm := by
  unfold rkS; rw [List.mem_filter, List.mem_range, decide_eq_true_eq]
/-- Are the units sufficient whichever n of the racks from an index on are lost, too? -/
def lsR (dc : List Bool → Bool) (racks names : List Int) : Nat → List Bool → Nat → Bool
  | 0, hv, _ => dc hv
  | n + 1, hv, fr => (List.range' fr (names.length - fr)).all fun i => lsR dc racks names n (wo hv (rkS racks (names.getD i 0))) (i + 1)
abbrev lostU (racks names : List Int) (S : List Nat) : List Nat := S.flatMap fun i => rkS racks (names.getD i 0)
theorem lsR_spec (dc : List Bool → Bool) (racks names : List Int) : ∀ (n : Nat) (hv : List Bool) (fr : Nat), lsR dc racks names n hv fr = true ↔ ∀ S : List Nat, S.length = n → S.Pairwise (· < ·) → (∀ i ∈ S, fr ≤ i ∧ i < names.length) → dc (wo hv (lostU racks names S)) = true
  | 0, hv, fr => by
    constructor
    · intro h S hl _ _
      obtain rfl := List.length_eq_zero_iff.1 hl
      exact h
    · intro h
      exact h [] rfl List.Pairwise.nil fun i hi => (by cases hi)
  | n + 1, hv, fr => by
    unfold lsR
    rw [List.all_eq_true]
    constructor
    · intro h S hl hp hb
      cases S with
      | nil => cases hl
      | cons i S =>
        have hi := hb i List.mem_cons_self
        have h1 := (lsR_spec dc racks names n _ _).1 (h i (List.mem_range'_1.2 ⟨hi.1, by omega⟩)) S (by simpa using hl) (List.pairwise_cons.1 hp).2 fun j hj => ⟨(List.pairwise_cons.1 hp).1 j hj, (hb j (List.mem_cons_of_mem _ hj)).2⟩
        rw [wo_app] at h1
        exact h1
    · intro h i hi
      rw [List.mem_range'_1] at hi
      refine (lsR_spec dc racks names n _ _).2 fun S hl hp hb => ?_
      have h1 := h (i :: S) (by rw [List.length_cons, hl]) (List.pairwise_cons.2 ⟨fun j hj => (hb j hj).1, hp⟩) fun j hj => by
        rcases List.mem_cons.1 hj with rfl | hj
        · omega
        · have := hb j hj; omega
      rw [wo_app]
      exact h1
/-- There are j racks without which the other units are not sufficient. -/
def RFat (dc : List Bool → Bool) (racks : List Int) (j : Nat) : Prop := ∃ R : List Int, R.Nodup ∧ R.length = j ∧ (∀ r ∈ R, r ∈ racks) ∧ dc (racks.map fun r => !decide (r ∈ R)) = false
theorem lost_map (racks : List Int) (S : List Nat) : wo (List.replicate racks.length true) (lostU racks (nmL racks) S) = racks.map fun r => !decide (r ∈ S.map fun i => (nmL racks).getD i 0) := by
  refine bl_ext (by rw [wo_len, List.length_replicate, List.length_map]) fun u hu => ?_
  rw [wo_len, List.length_replicate] at hu
  rw [wo_get, all_get hu, Bool.true_and, List.getD_eq_getElem?_getD, List.getElem?_map, List.getElem?_eq_getElem hu]
  show _ = !decide _
  congr 1
  refine decide_eq_decide.2 ?_
  have hg : racks.getD u 0 = racks[u] := by simp [List.getD_eq_getElem?_getD, hu]
  rw [List.mem_flatMap, List.mem_map]
  constructor
  · rintro ⟨i, hi, h⟩
    rw [rkS_mem] at h
    exact ⟨i, hi, by rw [← h.2, hg]⟩
  · rintro ⟨i, hi, h⟩
    exact ⟨i, hi, (rkS_mem _ _ _).2 ⟨hu, by rw [hg, h]⟩⟩
theorem getD_inj {l : List Int} (h : l.Nodup) {i j : Nat} (hi : i < l.length) (hj : j < l.length) (e : l.getD i 0 = l.getD j 0) : i = j := by
  have h1 : l.getD i 0 = l[i] := by simp [List.getD_eq_getElem?_getD, hi]
  have h2 : l.getD j 0 = l[j] := by simp [List.getD_eq_getElem?_getD, hj]
  rw [h1, h2] at e
  rcases Nat.lt_trichotomy i j with q | q | q
  · exact absurd e (List.pairwise_iff_getElem.1 h i j hi hj q)
  · exact q
  · exact absurd e.symm (List.pairwise_iff_getElem.1 h j i hj hi q)
theorem nodup_map {α β : Type} {f : α → β} : ∀ {l : List α}, l.Nodup → (∀ a ∈ l, ∀ b ∈ l, f a = f b → a = b) → (l.map f).Nodup
  | [], _, _ => List.nodup_nil
  | a :: l, h, hf => by
    have h1 := List.nodup_cons.1 h
    rw [List.map_cons, List.nodup_cons]
    refine ⟨fun q => ?_, nodup_map h1.2 fun x hx y hy => hf x (List.mem_cons_of_mem _ hx) y (List.mem_cons_of_mem _ hy)⟩
    obtain ⟨b, hb, e⟩ := List.mem_map.1 q
    have := hf b (List.mem_cons_of_mem _ hb) a List.mem_cons_self e
    subst this
    exact h1.1 hb
theorem lose_fat (dc : List Bool → Bool) (racks : List Int) (j : Nat) : lsR dc racks (nmL racks) j (List.replicate racks.length true) 0 = false ↔ RFat dc racks j := by
  have hnd := nmK_nodup racks racks.length
  constructor
  · intro h
    have h1 : ¬ ∀ S : List Nat, S.length = j → S.Pairwise (· < ·) → (∀ i ∈ S, 0 ≤ i ∧ i < (nmL racks).length) → dc (wo (List.replicate racks.length true) (lostU racks (nmL racks) S)) = true := fun q => by
      rw [(lsR_spec dc racks (nmL racks) j _ 0).2 q] at h; cases h
    refine Classical.byContradiction fun hno => h1 fun S hl hp hb => Classical.byContradiction fun hd => hno ⟨S.map fun i => (nmL racks).getD i 0, ?_, by rw [List.length_map, hl], fun r hr => ?_, ?_⟩
    · exact nodup_map (nodup_lt hp) fun a ha b hb2 e => getD_inj hnd (hb a ha).2 (hb b hb2).2 e
    · obtain ⟨i, hi, rfl⟩ := List.mem_map.1 hr
      rw [← nm_mem]
      have := (hb i hi).2
      rw [show (nmL racks).getD i 0 = (nmL racks)[i] by simp [List.getD_eq_getElem?_getD, this]]
      exact List.getElem_mem _
    · rw [← lost_map]; exact Bool.eq_false_iff.2 hd
  · rintro ⟨R, hR, hl, hm, hd⟩
    refine Bool.eq_false_iff.2 fun h => ?_
    have h1 := (lsR_spec dc racks (nmL racks) j _ 0).1 h
    have hS : ∀ i, i ∈ (List.range (nmL racks).length).filter (fun i => decide ((nmL racks).getD i 0 ∈ R)) ↔ i < (nmL racks).length ∧ (nmL racks).getD i 0 ∈ R := fun i => by rw [List.mem_filter, List.mem_range, decide_eq_true_eq]
    have hp : ((List.range (nmL racks).length).filter (fun i => decide ((nmL racks).getD i 0 ∈ R))).Pairwise (· < ·) := List.pairwise_lt_range.filter _
    generalize (List.range (nmL racks).length).filter (fun i => decide ((nmL racks).getD i 0 ∈ R)) = S at *
    have hM : ∀ r, r ∈ S.map (fun i => (nmL racks).getD i 0) ↔ r ∈ R := fun r => by
      rw [List.mem_map]
      constructor
      · rintro ⟨i, hi, rfl⟩; exact ((hS i).1 hi).2
      · intro hr
        obtain ⟨i, hi, e⟩ := List.getElem_of_mem ((nm_mem racks r).2 (hm r hr))
        have e2 : (nmL racks).getD i 0 = r := by simp [List.getD_eq_getElem?_getD, hi, e]
        exact ⟨i, (hS i).2 ⟨hi, by rw [e2]; exact hr⟩, e2⟩
    have hnS : (S.map fun i => (nmL racks).getD i 0).Nodup := nodup_map (nodup_lt hp) fun a ha b hb e => getD_inj hnd ((hS a).1 ha).1 ((hS b).1 hb).1 e
    have hlS : S.length = j := by
      rw [← hl, ← List.length_map (f := fun i => (nmL racks).getD i 0)]
      exact Nat.le_antisymm (nodup_len hnS fun r hr => (hM r).1 hr) (nodup_len hR fun r hr => (hM r).2 hr)
    have h2 := h1 S hlS hp fun i hi => ⟨Nat.zero_le _, ((hS i).1 hi).1⟩
    rw [lost_map] at h2
    have e : (racks.map fun r => !decide (r ∈ S.map fun i => (nmL racks).getD i 0)) = racks.map fun r => !decide (r ∈ R) := List.map_congr_left fun r _ => by rw [decide_eq_decide.2 (hM r)]
    rw [e, hd] at h2
    cases h2
/-- How many racks may be lost. -/
def racksN (dc : List Bool → Bool) (racks : List Int) : Nat := lfN (fun g => !lsR dc racks (nmL racks) (g + 1) (List.replicate racks.length true) 0) (min 4 (nmL racks).length) 0
def racksZ (dc : List Bool → Bool) (ok : Bool) (racks : List Int) : Int := if ok = true then (racksN dc racks : Int) else -1
section
variable {dc : List Bool → Bool} {racks : List Int}
theorem racks_le : racksN dc racks ≤ 4 ∧ racksN dc racks ≤ (nmL racks).length := by
  have := (lfN_spec (fun g => !lsR dc racks (nmL racks) (g + 1) (List.replicate racks.length true) 0) (min 4 (nmL racks).length) 0).2.1
  unfold racksN; omega
theorem racks_no {j : Nat} (h0 : 0 < j) (h : j ≤ racksN dc racks) : ¬ RFat dc racks j := fun hF => by
  have := (lfN_spec (fun g => !lsR dc racks (nmL racks) (g + 1) (List.replicate racks.length true) 0) (min 4 (nmL racks).length) 0).2.2.1 (j - 1) (Nat.zero_le _) (by show j - 1 < racksN dc racks; omega)
  rw [show j - 1 + 1 = j by omega, (lose_fat dc racks j).2 hF] at this
  cases this
theorem racks_fat (h : racksN dc racks < min 4 (nmL racks).length) : RFat dc racks (racksN dc racks + 1) := by
  have := (lfN_spec (fun g => !lsR dc racks (nmL racks) (g + 1) (List.replicate racks.length true) 0) (min 4 (nmL racks).length) 0).2.2.2 (by show racksN dc racks < _; omega)
  refine (lose_fat dc racks _).1 ?_
  unfold racksN
  simpa using this
/-- It is the number that these two facts give. -/
theorem racks_is {k M : Nat} (hM : M = min 4 (nmL racks).length) (hk : k ≤ M) (h1 : ∀ j, 0 < j → j ≤ k → ¬ RFat dc racks j) (h2 : k < M → RFat dc racks (k + 1)) : racksN dc racks = k := by
  have h3 := racks_le (dc := dc) (racks := racks)
  rcases Nat.lt_trichotomy (racksN dc racks) k with h | h | h
  · exact absurd (racks_fat (dc := dc) (racks := racks) (by omega)) (h1 _ (by omega) (by omega))
  · exact h
  · exact absurd (h2 (by omega)) (racks_no (by omega) (by omega))
end
theorem nm_len {racks : List Int} {L : List Int} (hL : L.Nodup) (h : ∀ r, r ∈ L ↔ r ∈ racks) : (nmL racks).length = L.length :=
  Nat.le_antisymm (nodup_len (nmK_nodup racks racks.length) fun r hr => (h r).2 ((nm_mem racks r).1 hr)) (nodup_len hL fun r hr => (nm_mem racks r).2 ((h r).1 hr))
/-- Other names. -/
theorem racks_names (dc : List Bool → Bool) (racks : List Int) (f : Int → Int) (hf : ∀ a b, f a = f b → a = b) : racksN dc (racks.map f) = racksN dc racks := by
  have hlen : (nmL (racks.map f)).length = (nmL racks).length := by
    have := nm_len (racks := racks.map f) (L := (nmL racks).map f) (nodup_map (nmK_nodup racks racks.length) fun a _ b _ e => hf a b e) fun r => by
      rw [List.mem_map, List.mem_map]
      exact ⟨fun ⟨a, h, e⟩ => ⟨a, (nm_mem racks a).1 h, e⟩, fun ⟨a, h, e⟩ => ⟨a, (nm_mem racks a).2 h, e⟩⟩
    rw [this, List.length_map]
  have hfat : ∀ j, RFat dc (racks.map f) j ↔ RFat dc racks j := fun j => by
    have hmap : ∀ R : List Int, ((racks.map f).map fun r => !decide (r ∈ R.map f)) = racks.map fun r => !decide (r ∈ R) := fun R => by
      rw [List.map_map]
      refine List.map_congr_left fun r _ => ?_
      show (!decide (f r ∈ R.map f)) = _
      rw [decide_eq_decide.2 (show f r ∈ R.map f ↔ r ∈ R from ⟨fun h => by obtain ⟨a, ha, e⟩ := List.mem_map.1 h; rw [← hf _ _ e]; exact ha, fun h => List.mem_map_of_mem h⟩)]
    constructor
    · rintro ⟨R, h1, h2, h3, h4⟩
      -- its names before
      have hex : ∃ R0 : List Int, R0.map f = R ∧ ∀ r ∈ R0, r ∈ racks := by
        clear h1 h2 h4
        induction R with
        | nil => exact ⟨[], rfl, fun r hr => (by cases hr)⟩
        | cons r R ih =>
          obtain ⟨R0, e, hm⟩ := ih fun q hq => h3 q (List.mem_cons_of_mem _ hq)
          obtain ⟨a, ha, e2⟩ := List.mem_map.1 (h3 r List.mem_cons_self)
          exact ⟨a :: R0, by rw [List.map_cons, e, e2], fun q hq => (List.mem_cons.1 hq).elim (fun h => h ▸ ha) (hm q)⟩
      obtain ⟨R0, rfl, hm⟩ := hex
      refine ⟨R0, ?_, by rw [List.length_map] at h2; exact h2, hm, by rw [hmap] at h4; exact h4⟩
      refine List.Pairwise.imp (fun {a b} h e => h (by rw [e])) (List.pairwise_map.1 h1)
    · rintro ⟨R, h1, h2, h3, h4⟩
      exact ⟨R.map f, nodup_map h1 fun a _ b _ e => hf a b e, by rw [List.length_map, h2], fun r hr => by obtain ⟨a, ha, rfl⟩ := List.mem_map.1 hr; exact List.mem_map_of_mem (h3 a ha), by rw [hmap]; exact h4⟩
  have hle := racks_le (dc := dc) (racks := racks)
  exact racks_is (k := racksN dc racks) rfl (by rw [hlen]; omega) (fun j h0 h => by rw [hfat]; exact racks_no h0 h) (fun h => by rw [hfat]; exact racks_fat (by rw [hlen] at h; exact h))
/-- Racks merged. -/
theorem racks_merge {dc : List Bool → Bool} {N n : Nat} (D : Dcd dc N n) {racks : List Int} (hN : racks.length = N) (f : Int → Int) : racksN dc (racks.map f) ≤ racksN dc racks := by
  have hle := racks_le (dc := dc) (racks := racks)
  have hle' := racks_le (dc := dc) (racks := racks.map f)
  have hlen : (nmL (racks.map f)).length ≤ (nmL racks).length := by
    have h1 := nodup_len (A := nmL (racks.map f)) (B := (nmL racks).map f) (nmK_nodup _ _) fun r hr => by
      obtain ⟨a, ha, rfl⟩ := List.mem_map.1 ((nm_mem _ r).1 hr)
      exact List.mem_map_of_mem ((nm_mem racks a).2 ha)
    rwa [List.length_map] at h1
  refine Nat.le_of_not_lt fun hlt => ?_
  obtain ⟨R, h1, h2, h3, h4⟩ := racks_fat (dc := dc) (racks := racks) (by omega)
  -- its names, once
  have hR' : ∃ R' : List Int, R'.Nodup ∧ (∀ r, r ∈ R' ↔ r ∈ R.map f) := ⟨nmL (R.map f), nmK_nodup _ _, fun r => nm_mem _ r⟩
  obtain ⟨R', g1, g2⟩ := hR'
  have hl : R'.length ≤ R.length := by
    have := nodup_len g1 fun r hr => (g2 r).1 hr
    rwa [List.length_map] at this
  have h0 : 0 < R'.length := by
    cases R with
    | nil => cases h2
    | cons r R => exact List.length_pos_of_mem ((g2 (f r)).2 (List.mem_map_of_mem List.mem_cons_self))
  refine racks_no (dc := dc) (racks := racks.map f) h0 (by omega) ⟨R', g1, rfl, fun r hr => ?_, Bool.eq_false_iff.2 fun hd => ?_⟩
  · obtain ⟨a, ha, rfl⟩ := List.mem_map.1 ((g2 r).1 hr)
    exact List.mem_map_of_mem (h3 a ha)
  · have := D.mono _ (racks.map fun r => !decide (r ∈ R)) (by rw [List.length_map, List.length_map, hN]) (by rw [List.length_map, hN]) (fun i hi => ?_) hd
    · rw [h4] at this; cases this
    · have hlt : i < racks.length := Nat.lt_of_not_le fun hge => by
        rw [List.getD_eq_getElem?_getD, List.getElem?_eq_none (by simpa using hge)] at hi; cases hi
      rw [List.getD_eq_getElem?_getD, List.getElem?_map, List.getElem?_map, List.getElem?_eq_getElem hlt] at hi
      rw [List.getD_eq_getElem?_getD, List.getElem?_map, List.getElem?_eq_getElem hlt]
      have hi : (!decide (f racks[i] ∈ R')) = true := hi
      show (!decide (racks[i] ∈ R)) = true
      rw [Bool.not_eq_true', decide_eq_false_iff_not] at hi ⊢
      exact fun q => hi ((g2 _).2 (List.mem_map_of_mem q))
/-- Each unit in a rack of its own. -/
theorem racks_own (dc : List Bool → Bool) {N : Nat} {racks : List Int} (hN : racks.length = N) (hnd : racks.Nodup) (hd : dc (List.replicate N true) = true) : racksN dc racks = leftN dc (List.replicate N true) := by
  have hlen : (nmL racks).length = N := by rw [nm_len hnd fun r => Iff.rfl, hN]
  have hcnt : cntT (List.replicate N true) = N := by
    have := cnt_all N 0 N (Nat.le_refl _)
    unfold cntT
    rw [List.length_replicate]
    exact this
  have hfat : ∀ j, RFat dc racks j ↔ Fat dc (List.replicate N true) j := fun j => by
    constructor
    · rintro ⟨R, h1, h2, h3, h4⟩
      have hS : ∀ i, i ∈ (List.range N).filter (fun i => decide (racks.getD i 0 ∈ R)) ↔ i < N ∧ racks.getD i 0 ∈ R := fun i => by rw [List.mem_filter, List.mem_range, decide_eq_true_eq]
      have hp : ((List.range N).filter (fun i => decide (racks.getD i 0 ∈ R))).Pairwise (· < ·) := List.pairwise_lt_range.filter _
      generalize (List.range N).filter (fun i => decide (racks.getD i 0 ∈ R)) = S at *
      have hnS : (S.map fun i => racks.getD i 0).Nodup := nodup_map (nodup_lt hp) fun a ha b hb e => getD_inj hnd (by rw [hN]; exact ((hS a).1 ha).1) (by rw [hN]; exact ((hS b).1 hb).1) e
      have hM : ∀ r, r ∈ S.map (fun i => racks.getD i 0) ↔ r ∈ R := fun r => by
        rw [List.mem_map]
        constructor
        · rintro ⟨i, hi, rfl⟩; exact ((hS i).1 hi).2
        · intro hr
          obtain ⟨i, hi, e⟩ := List.getElem_of_mem (h3 r hr)
          have e2 : racks.getD i 0 = r := by simp [List.getD_eq_getElem?_getD, hi, e]
          exact ⟨i, (hS i).2 ⟨by omega, by rw [e2]; exact hr⟩, e2⟩
      refine ⟨S, nodup_lt hp, ?_, fun i hi => ⟨by rw [List.length_replicate]; exact ((hS i).1 hi).1, all_get ((hS i).1 hi).1⟩, ?_⟩
      · rw [← h2, ← List.length_map (f := fun i => racks.getD i 0)]
        exact Nat.le_antisymm (nodup_len hnS fun r hr => (hM r).1 hr) (nodup_len h1 fun r hr => (hM r).2 hr)
      · rw [← h4]
        congr 1
        refine bl_ext (by rw [wo_len, List.length_replicate, List.length_map, hN]) fun i hi => ?_
        rw [wo_len, List.length_replicate] at hi
        rw [wo_get, all_get hi, Bool.true_and, List.getD_eq_getElem?_getD, List.getElem?_map, List.getElem?_eq_getElem (by omega)]
        show _ = !decide _
        congr 1
        refine decide_eq_decide.2 ?_
        rw [hS i, show racks.getD i 0 = racks[i]'(by omega) by simp [List.getD_eq_getElem?_getD, hN, hi]]
        exact ⟨fun q => q.2, fun q => ⟨hi, q⟩⟩
    · rintro ⟨T, h1, h2, h3, h4⟩
      have hb : ∀ i ∈ T, i < racks.length := fun i hi => by have := (h3 i hi).1; rw [List.length_replicate] at this; omega
      refine ⟨T.map fun i => racks.getD i 0, nodup_map h1 fun a ha b hb2 e => getD_inj hnd (hb a ha) (hb b hb2) e, by rw [List.length_map, h2], fun r hr => ?_, ?_⟩
      · obtain ⟨i, hi, rfl⟩ := List.mem_map.1 hr
        rw [show racks.getD i 0 = racks[i]'(hb i hi) by simp [List.getD_eq_getElem?_getD, hb i hi]]
        exact List.getElem_mem _
      · rw [← h4]
        congr 1
        refine bl_ext (by rw [wo_len, List.length_replicate, List.length_map, hN]) fun i hi => ?_
        rw [List.length_map] at hi
        rw [wo_get, all_get (by omega), Bool.true_and, List.getD_eq_getElem?_getD, List.getElem?_map, List.getElem?_eq_getElem hi]
        show (!decide _) = _
        congr 1
        refine decide_eq_decide.2 ?_
        rw [List.mem_map]
        constructor
        · rintro ⟨k, hk, e⟩
          rw [← getD_inj hnd (hb k hk) hi (by rw [e]; simp [List.getD_eq_getElem?_getD, hi])]
          exact hk
        · intro hk
          exact ⟨i, hk, by simp [List.getD_eq_getElem?_getD, hi]⟩
  have hle := left_le (dc := dc) (hs := List.replicate N true)
  rw [hcnt] at hle
  exact racks_is (k := leftN dc (List.replicate N true)) rfl (by rw [hlen]; omega) (fun j h0 h => by rw [hfat]; exact left_no hd h) (fun h => by rw [hfat]; exact left_fat (by rw [hcnt]; rw [hlen] at h; exact h))
/-- All units in one rack. -/
theorem racks_one {dc : List Bool → Bool} {N n : Nat} (D : Dcd dc N n) (hN : 0 < N) (r : Int) : racksN dc (List.replicate N r) = 0 := by
  have hlen : (nmL (List.replicate N r)).length = 1 := nm_len (L := [r]) (by simp) fun q => by
    rw [List.mem_singleton, List.mem_replicate]
    exact ⟨fun h => ⟨by omega, h⟩, fun h => h.2⟩
  refine racks_is (k := 0) rfl (Nat.zero_le _) (fun j h0 h => absurd h (by omega)) fun _ => ⟨[r], by simp, rfl, fun q hq => ?_, ?_⟩
  · rw [List.mem_singleton] at hq
    rw [hq]
    exact List.mem_replicate.2 ⟨by omega, rfl⟩
  · refine none_no D (by rw [List.length_map, List.length_replicate]) fun i => ?_
    rw [List.getD_eq_getElem?_getD, List.getElem?_map, List.getElem?_replicate]
    split
    · simp
    · rfl
end Go.Proofs.YtkfahoaiialndaaGreatDoor
