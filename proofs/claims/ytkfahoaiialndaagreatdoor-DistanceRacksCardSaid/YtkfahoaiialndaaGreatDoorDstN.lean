/-
  The unions of parts, in the order in which they are visited (uni), and what the program's losses answers (losR): for units (losR_units) and for racks (losR_racks). No program stands behind this text.
-/
import Derived.Test.YtkfahoaiialndaaGreatDoorDstA
namespace Go.Proofs.YtkfahoaiialndaaGreatDoor
set_option linter.unusedVariables false
set_option linter.unusedSimpArgs false

/-- The unions of some units and of so many parts. -/
def uni : List Nat → List (List Nat) → Nat → List (List Nat)
  | pre, _, 0 => [pre]
  | _, [], _ + 1 => []
  | pre, p :: ps, n + 1 => uni (pre ++ p) ps n ++ uni pre ps (n + 1)
theorem uni_spec : ∀ (ps : List (List Nat)) (pre : List Nat) (n : Nat) (u : List Nat), u ∈ uni pre ps n ↔ ∃ S : List (List Nat), S.Sublist ps ∧ S.length = n ∧ u = pre ++ S.flatten
  | ps, pre, 0, u => by
    have : uni pre ps 0 = [pre] := by cases ps <;> rfl
    rw [this, List.mem_singleton]
    constructor
    · rintro rfl
      exact ⟨[], List.nil_sublist _, rfl, (List.append_nil _).symm⟩
    · rintro ⟨S, _, hl, rfl⟩
      obtain rfl := List.length_eq_zero_iff.1 hl
      exact List.append_nil _
  | [], pre, n + 1, u => by
    constructor
    · intro h; cases h
    · rintro ⟨S, hs, hl, _⟩
      obtain rfl := List.sublist_nil.1 hs
      cases hl
  | p :: ps, pre, n + 1, u => by
    rw [show uni pre (p :: ps) (n + 1) = uni (pre ++ p) ps n ++ uni pre ps (n + 1) from rfl, List.mem_append, uni_spec ps (pre ++ p) n u, uni_spec ps pre (n + 1) u]
    constructor
    · rintro (⟨S, h1, h2, rfl⟩ | ⟨S, h1, h2, rfl⟩)
      · exact ⟨p :: S, h1.cons_cons p, by rw [List.length_cons, h2], by rw [List.flatten_cons, List.append_assoc]⟩
      · exact ⟨S, h1.cons p, h2, rfl⟩
    · rintro ⟨S, h1, h2, rfl⟩
      cases h1 with
      | cons _ h1 => exact .inr ⟨S, h1, h2, rfl⟩
      | cons_cons _ h1 => exact .inl ⟨_, h1, by simpa using h2, by rw [List.flatten_cons, List.append_assoc]⟩

/-- What losses answers: from a size on, so many sizes. -/
def losR (dc : List Bool → Bool) (hs : List Bool) (ps : List (List Nat)) : Nat → Nat → Int × List Nat
  | 0, _ => (4, [])
  | k + 1, s => match (uni [] ps s).find? fun u => !dc (wo hs u) with
    | some u => ((s : Int) - 1, u)
    | none => losR dc hs ps k (s + 1)
theorem losR_none {dc : List Bool → Bool} {hs : List Bool} {ps : List (List Nat)} : ∀ k s, (∀ j, j < k → (uni [] ps (s + j)).find? (fun u => !dc (wo hs u)) = none) → losR dc hs ps k s = (4, [])
  | 0, s, _ => rfl
  | k + 1, s, h => by
    unfold losR
    rw [show (uni [] ps s).find? (fun u => !dc (wo hs u)) = none from h 0 (by omega)]
    exact losR_none k (s + 1) fun j hj => by rw [show s + 1 + j = s + (j + 1) by omega]; exact h (j + 1) (by omega)
theorem losR_some {dc : List Bool → Bool} {hs : List Bool} {ps : List (List Nat)} {u : List Nat} : ∀ k s f, f < k → (∀ j, j < f → (uni [] ps (s + j)).find? (fun u => !dc (wo hs u)) = none) → (uni [] ps (s + f)).find? (fun u => !dc (wo hs u)) = some u → losR dc hs ps k s = (((s + f : Nat) : Int) - 1, u)
  | 0, s, f, hf, _, _ => absurd hf (Nat.not_lt_zero f)
  | k + 1, s, 0, _, _, h2 => by
    unfold losR
    rw [show (uni [] ps s).find? (fun u => !dc (wo hs u)) = some u from h2]
    rfl
  | k + 1, s, f + 1, hf, h1, h2 => by
    unfold losR
    rw [show (uni [] ps s).find? (fun u => !dc (wo hs u)) = none from h1 0 (by omega)]
    have := losR_some k (s + 1) f (by omega) (fun j hj => by rw [show s + 1 + j = s + (j + 1) by omega]; exact h1 (j + 1) (by omega)) (by rw [show s + 1 + f = s + (f + 1) by omega]; exact h2)
    rw [show s + (f + 1) = s + 1 + f by omega]
    exact this

/-- The present units from an index on, each for itself. -/
def prF (hs : List Bool) (fr k : Nat) : List (List Nat) := ((List.range' fr k).filter fun i => hs.getD i false).map fun i => [i]
theorem prF_cons (hs : List Bool) (fr k : Nat) : prF hs fr (k + 1) = if hs.getD fr false = true then [fr] :: prF hs (fr + 1) k else prF hs (fr + 1) k := by
  unfold prF
  rw [List.range'_succ]
  by_cases h : hs.getD fr false = true
  · rw [if_pos h, List.filter_cons, if_pos h]; rfl
  · rw [if_neg h, List.filter_cons, if_neg h]
theorem uni_ftl (dc : List Bool → Bool) (hs : List Bool) : ∀ (n : Nat) (set : List Nat) (k fr : Nat), fr + k = hs.length → (uni set (prF hs fr k) n).find? (fun u => !dc (wo hs u)) = ftl dc hs n set fr
  | 0, set, k, fr, _ => by
    have : uni set (prF hs fr k) 0 = [set] := by cases prF hs fr k <;> rfl
    rw [this]
    unfold ftl
    by_cases h : dc (wo hs set) = true
    · rw [if_pos h]; simp [h]
    · rw [if_neg h]; simp [h]
  | n + 1, set, k, fr, hk => by
    have key : ∀ (k fr : Nat), fr + k = hs.length → (uni set (prF hs fr k) (n + 1)).find? (fun u => !dc (wo hs u)) = (List.range' fr k).findSome? fun i => if hs.getD i false = true then ftl dc hs n (set ++ [i]) (i + 1) else none := by
      intro k
      induction k with
      | zero => intro fr _; rfl
      | succ k ih =>
        intro fr hk
        rw [prF_cons, List.range'_succ, List.findSome?_cons]
        by_cases h : hs.getD fr false = true
        · rw [if_pos h, if_pos h, show uni set ([fr] :: prF hs (fr + 1) k) (n + 1) = uni (set ++ [fr]) (prF hs (fr + 1) k) n ++ uni set (prF hs (fr + 1) k) (n + 1) from rfl, List.find?_append, uni_ftl dc hs n (set ++ [fr]) k (fr + 1) (by omega), ih (fr + 1) (by omega)]
          cases ftl dc hs n (set ++ [fr]) (fr + 1) <;> rfl
        · rw [if_neg h, if_neg h, ih (fr + 1) (by omega)]
    rw [key k fr hk, show ftl dc hs (n + 1) set fr = (List.range' fr (hs.length - fr)).findSome? fun i => if hs.getD i false = true then ftl dc hs n (set ++ [i]) (i + 1) else none from by rw [ftl], show hs.length - fr = k by omega]
/-- The present units, each for itself. -/
abbrev prL (hs : List Bool) : List (List Nat) := prF hs 0 hs.length
section
variable {dc : List Bool → Bool} {N n : Nat} (D : Dcd dc N n)
include D
theorem losR_units {hs : List Bool} (hl : hs.length = N) : losR dc hs (prL hs) 5 0 = (leftZ dc true hs, fatZ dc true hs) := by
  have hu : ∀ s, (uni [] (prL hs) s).find? (fun u => !dc (wo hs u)) = ftl dc hs s [] 0 := fun s => uni_ftl dc hs s [] hs.length 0 (by omega)
  by_cases hd : dc hs = true
  · have h4 := (left_le (dc := dc) (hs := hs)).1
    have hno : ∀ j, j ≤ leftN dc hs → ftl dc hs j [] 0 = none := fun j hj => (ftl_fat dc hs j).2 (left_no hd hj)
    unfold leftZ fatZ
    rw [if_pos ⟨rfl, hd⟩]
    by_cases e : leftN dc hs = 4
    · rw [if_neg (fun q => q.2.2 e), e]
      exact losR_none 5 0 fun j hj => by rw [hu]; exact hno _ (by omega)
    · rw [if_pos ⟨rfl, hd, e⟩]
      obtain ⟨l, h1, _⟩ := fatal_is D hl hd e
      rw [losR_some (u := l) 5 0 (leftN dc hs + 1) (by omega) (fun j hj => by rw [hu]; exact hno _ (by omega)) (by rw [hu, Nat.zero_add]; exact h1), h1]
      show ((_ : Int), l) = _
      congr 1
      omega
  · unfold leftZ fatZ
    rw [if_neg (fun q => hd q.2), if_neg (fun q => hd q.2.1)]
    have h0 : ftl dc hs 0 [] 0 = some [] := by unfold ftl; rw [if_neg (show ¬ dc (wo hs []) = true from hd)]
    rw [losR_some (u := []) 5 0 0 (by omega) (fun j hj => absurd hj (Nat.not_lt_zero j)) (by rw [hu]; exact h0)]
    rfl
/-- The names of the racks, in any order, each once. -/
theorem losR_racks {racks names : List Int} (hl : racks.length = N) (hall : dc (List.replicate N true) = true) (hn : names.Nodup) (hm : ∀ r, r ∈ names ↔ r ∈ racks) :
    (losR dc (List.replicate N true) (names.map (rkS racks)) 5 0).1 = racksZ dc true racks := by
  subst hl
  have hlen := nm_len hn hm
  have hwo : ∀ R : List Int, wo (List.replicate racks.length true) (R.map (rkS racks)).flatten = racks.map fun r => !decide (r ∈ R) := fun R => by
    refine bl_ext (by rw [wo_len, List.length_replicate, List.length_map]) fun u hu => ?_
    rw [wo_len, List.length_replicate] at hu
    rw [wo_get, all_get hu, Bool.true_and, List.getD_eq_getElem?_getD, List.getElem?_map, List.getElem?_eq_getElem hu]
    show _ = !decide _
    congr 1
    refine decide_eq_decide.2 ?_
    have hg : racks.getD u 0 = racks[u] := by simp [List.getD_eq_getElem?_getD, hu]
    rw [List.mem_flatten]
    constructor
    · rintro ⟨l, hl, h⟩
      obtain ⟨r, hr, rfl⟩ := List.mem_map.1 hl
      rw [rkS_mem] at h
      rw [← hg, h.2]; exact hr
    · intro h
      exact ⟨_, List.mem_map_of_mem h, (rkS_mem _ _ _).2 ⟨hu, hg⟩⟩
  have hF : ∀ j, ((uni [] (names.map (rkS racks)) j).find? (fun u => !dc (wo (List.replicate racks.length true) u))).isSome = true ↔ RFat dc racks j := fun j => by
    rw [List.find?_isSome]
    constructor
    · rintro ⟨u, hu, h⟩
      obtain ⟨S, h1, h2, rfl⟩ := (uni_spec _ _ _ _).1 hu
      obtain ⟨R, h3, rfl⟩ := List.sublist_map_iff.1 h1
      refine ⟨R, List.Nodup.sublist h3 hn, by rwa [List.length_map] at h2, fun r hr => (hm r).1 (h3.subset hr), ?_⟩
      rw [List.nil_append, hwo] at h
      simpa using h
    · rintro ⟨R, h1, h2, h3, h4⟩
      have hmem : ∀ r, r ∈ names.filter (fun r => decide (r ∈ R)) ↔ r ∈ R := fun r => by
        rw [List.mem_filter, decide_eq_true_eq]
        exact ⟨fun q => q.2, fun q => ⟨(hm r).2 (h3 r q), q⟩⟩
      have hnd : (names.filter (fun r => decide (r ∈ R))).Nodup := List.Nodup.sublist List.filter_sublist hn
      refine ⟨([] : List Nat) ++ ((names.filter (fun r => decide (r ∈ R))).map (rkS racks)).flatten, (uni_spec _ _ _ _).2 ⟨_, List.filter_sublist.map _, ?_, rfl⟩, ?_⟩
      · rw [List.length_map, ← h2]
        exact Nat.le_antisymm (nodup_len hnd fun r hr => (hmem r).1 hr) (nodup_len h1 fun r hr => (hmem r).2 hr)
      · rw [List.nil_append, hwo, show (racks.map fun r => !decide (r ∈ names.filter (fun r => decide (r ∈ R)))) = racks.map fun r => !decide (r ∈ R) from List.map_congr_left fun r _ => by rw [decide_eq_decide.2 (hmem r)], h4]
        rfl
  have hle := racks_le (dc := dc) (racks := racks)
  have hz : ¬ RFat dc racks 0 := by
    rintro ⟨R, _, h2, _, h4⟩
    obtain rfl := List.length_eq_zero_iff.1 h2
    have : (racks.map fun r => !decide (r ∈ ([] : List Int))) = List.replicate racks.length true := by
      rw [List.eq_replicate_iff]
      exact ⟨List.length_map _, fun b hb => by obtain ⟨a, _, rfl⟩ := List.mem_map.1 hb; simp⟩
    rw [this, hall] at h4
    cases h4
  have hno : ∀ j, j ≤ racksN dc racks → (uni [] (names.map (rkS racks)) j).find? (fun u => !dc (wo (List.replicate racks.length true) u)) = none := fun j hj => by
    have : ¬ RFat dc racks j := by
      rcases Nat.eq_zero_or_pos j with rfl | h
      · exact hz
      · exact racks_no h hj
    rw [← hF] at this
    cases hq : (uni [] (names.map (rkS racks)) j).find? (fun u => !dc (wo (List.replicate racks.length true) u)) with
    | none => rfl
    | some u => rw [hq] at this; exact absurd rfl this
  unfold racksZ
  rw [if_pos rfl]
  by_cases e : racksN dc racks = 4
  · rw [e, losR_none 5 0 fun j hj => by rw [Nat.zero_add]; exact hno _ (by omega)]
    rfl
  · have hlt : racksN dc racks < (nmL racks).length := by
      refine Nat.lt_of_not_le fun h => ?_
      -- all racks are lost
      have hf : RFat dc racks (nmL racks).length := ⟨nmL racks, nmK_nodup racks racks.length, rfl, fun r hr => (nm_mem racks r).1 hr, none_no D (by rw [List.length_map]) fun i => by
        rw [List.getD_eq_getElem?_getD, List.getElem?_map]
        cases hi : racks[i]? with
        | none => rfl
        | some r =>
          show (!decide (r ∈ nmL racks)) = false
          rw [decide_eq_true ((nm_mem racks r).2 (List.mem_of_getElem? hi))]; rfl⟩
      rcases Nat.eq_zero_or_pos (nmL racks).length with h0 | h0
      · rw [h0] at hf; exact hz hf
      · exact racks_no h0 h hf
    have hf := racks_fat (dc := dc) (racks := racks) (by omega)
    rw [← hF] at hf
    obtain ⟨u, hq⟩ := Option.isSome_iff_exists.1 hf
    rw [losR_some (u := u) 5 0 (racksN dc racks + 1) (by omega) (fun j hj => by rw [Nat.zero_add]; exact hno _ (by omega)) (by rw [Nat.zero_add]; exact hq)]
    show (((0 + (racksN dc racks + 1) : Nat) : Int) - 1) = _
    omega
end
end Go.Proofs.YtkfahoaiialndaaGreatDoor
