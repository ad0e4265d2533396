/-
  The hash inputs of a proof, as the reference lists them: directions by length and index; a row of rows of bytes.
-/
import Derived.Test.YtkjnimcapjjfdaaDoorClimb
import Derived.Test.YtkjnimcapjjfdaaDoorRNode
namespace Go.Proofs.YtkjnimcapjjfdaaDoor
open Go.RowKit
set_option linter.unusedVariables false

/-- At each element of a proof: whether it stands left. -/
def dirsN (n i : Nat) : List Bool :=
  if h : 2 ≤ n then
    if i < splitK n then dirsN (splitK n) i ++ [false] else dirsN (n - splitK n) (i - splitK n) ++ [true]
  else []
termination_by n
decreasing_by
  · have := splitK_spec _ h; omega
  · have := splitK_spec _ h; omega
theorem dirs_one (n i : Nat) (h : ¬ 2 ≤ n) : dirsN n i = [] := by rw [dirsN, dif_neg h]
theorem dirs_left (n i : Nat) (h : 2 ≤ n) (hi : i < splitK n) : dirsN n i = dirsN (splitK n) i ++ [false] := by rw [dirsN, dif_pos h, if_pos hi]
theorem dirs_right (n i : Nat) (h : 2 ≤ n) (hi : ¬ i < splitK n) : dirsN n i = dirsN (n - splitK n) (i - splitK n) ++ [true] := by rw [dirsN, dif_pos h, if_neg hi]
theorem dirs_pos (n i : Nat) (h : 2 ≤ n) : 1 ≤ (dirsN n i).length := by
  by_cases hi : i < splitK n
  · rw [dirs_left n i h hi, List.length_append]; simp
  · rw [dirs_right n i h hi, List.length_append]; simp
theorem dirs_sibs : ∀ (e low high i : Nat), high - low ≤ 2 ^ e → low ≤ i → befD (sibs low high i) = dirsN (high - low) (i - low)
  | 0, low, high, i, h, hl => by rw [sibs_one low high i (by simp at h; omega), dirs_one _ _ (by simp at h; omega)]; rfl
  | e + 1, low, high, i, h, hl => by
    by_cases h2 : 2 ≤ high - low
    · have hs := splitK_spec _ h2
      have hk := splitK_le _ e h2 h
      by_cases hi : i < low + splitK (high - low)
      · rw [sibs_left low high i h2 hi, dirs_left _ _ h2 (by omega)]
        have := dirs_sibs e low (low + splitK (high - low)) i (by omega) hl
        rw [Nat.add_sub_cancel_left] at this
        unfold befD at this ⊢
        rw [List.map_append, this]; rfl
      · rw [sibs_right low high i h2 hi, dirs_right _ _ h2 (by omega)]
        have := dirs_sibs e (low + splitK (high - low)) high i (by omega) (by omega)
        rw [show high - (low + splitK (high - low)) = high - low - splitK (high - low) by omega, show i - (low + splitK (high - low)) = i - low - splitK (high - low) by omega] at this
        unfold befD at this ⊢
        rw [List.map_append, this]; rfl
    · rw [sibs_one low high i h2, dirs_one _ _ h2]; rfl
theorem dirs_of (n i : Nat) (hn : n ≤ 9223372036854775807) : befD (sibs 0 n i) = dirsN n i := by
  have := dirs_sibs 63 0 n i (by omega) (Nat.zero_le _)
  simpa using this
theorem rootK_more (D E : List Bool) (ds : List (List UInt8)) (leaf : List UInt8) : ∀ p, p ≤ D.length → rootK (D ++ E) ds leaf p = rootK D ds leaf p
  | 0, _ => rfl
  | p + 1, h => by
    rw [rootK, rootK, rootK_more D E ds leaf p (by omega)]
    simp only [List.getD_eq_getElem?_getD]
    rw [List.getElem?_append_left (by omega)]
theorem insK_more (D E : List Bool) (ds : List (List UInt8)) (leaf : List UInt8) : ∀ p, p ≤ D.length → insK (D ++ E) ds leaf p = insK D ds leaf p
  | 0, _ => rfl
  | p + 1, h => by
    rw [insK, insK, insK_more D E ds leaf p (by omega), rootK_more D E ds leaf p (by omega)]
    simp only [List.getD_eq_getElem?_getD]
    rw [List.getElem?_append_left (by omega)]
theorem insK_snoc (D : List Bool) (b : Bool) (ds : List (List UInt8)) (leaf : List UInt8) (p : Nat) (h : D.length = p) :
    insK (D ++ [b]) ds leaf (p + 1) = insK D ds leaf p ++ [stepIn b (ds.getD p []) (rootK D ds leaf p)] := by
  rw [insK, insK_more D [b] ds leaf p (by omega), rootK_more D [b] ds leaf p (by omega)]
  simp only [List.getD_eq_getElem?_getD]
  rw [List.getElem?_append_right (by omega), h, Nat.sub_self]; rfl
theorem insK_last (D : List Bool) (ds : List (List UInt8)) (leaf : List UInt8) (p : Nat) : ∃ m, (insK D ds leaf p)[p]? = some m ∧ cutD m = rootK D ds leaf p := by
  cases p with
  | zero => exact ⟨_, rfl, rfl⟩
  | succ p =>
    refine ⟨_, ?_, rfl⟩
    rw [insK, List.getElem?_append_right (by rw [insK_len]; omega), insK_len, Nat.sub_self]
    rfl
theorem insK_le (D : List Bool) (ds : List (List UInt8)) (leaf : List UInt8) (hl : leaf.length = 16) : ∀ p, (∀ k, k < p → (ds.getD k []).length = 16) → ∀ m ∈ insK D ds leaf p, m.length ≤ 100
  | 0, _, m, hm => by rw [insK, List.mem_singleton] at hm; subst hm; exact leafIn_len _ hl
  | p + 1, h, m, hm => by
    rw [insK] at hm
    rcases List.mem_append.1 hm with hm | hm
    · exact insK_le D ds leaf hl p (fun k hk => h k (by omega)) m hm
    · rw [List.mem_singleton] at hm; subst hm; exact stepIn_len _ _ _ (h p (by omega)) (rootK_len _ _ _ _)

theorem own_grown {w w' : World} {base base2 : Nat} {e e2 : TypeId} {size size2 n n2 : Nat} {v v2 : Value} {xs xs2 : List Value} (h : w.ownsRow base e size v n xs) (h2 : w.ownsRow base2 e2 size2 v2 n2 xs2) (hne : e ≠ e2) (hg : w.grownBy w' v2.ownBlock) : w'.ownsRow base e size v n xs := by
  refine ⟨h.1, ?_⟩
  rcases h.2 with h0 | ⟨k, cap, cur, hv, hb, hh, r⟩
  · exact .inl h0
  · refine .inr ⟨k, cap, cur, hv, hb, ?_, r⟩
    have hB : Blk w k e cur.toList := by unfold Blk; rw [hh]
    exact (hg.block k hB.lt (own_ne h2 hB hne)).trans hh
/-- A row of rows of bytes. -/
def Msgs (W : World) (base : Nat) (v : Value) (ms : List (List UInt8)) : Prop :=
  ∃ xs : List Value, W.ownsRow base 22 1 v ms.length xs ∧ ∀ (k : Nat) (u : Value) (m : List UInt8), xs[k]? = some u → ms[k]? = some m → W.ownsRow base 5 1 u m.length (m.map bv)
theorem Msgs.kept {W W' : World} {base : Nat} {v : Value} {ms : List (List UInt8)} (h : Msgs W base v ms) (hb : Below W.heap.size W W') : Msgs W' base v ms := by
  obtain ⟨xs, h1, h2⟩ := h
  exact ⟨xs, own_kept h1 hb, fun k u m hu hm => own_kept (h2 k u m hu hm) hb⟩
theorem Msgs.low {W : World} {base base' : Nat} {v : Value} {ms : List (List UInt8)} (h : Msgs W base v ms) (hb : base' ≤ base) : Msgs W base' v ms := by
  obtain ⟨xs, h1, h2⟩ := h
  exact ⟨xs, own_low h1 hb, fun k u m hu hm => own_low (h2 k u m hu hm) hb⟩
theorem Msgs.one {W : World} {base : Nat} {u : Value} {m : List UInt8} (h : W.ownsRow base 5 1 u m.length (m.map bv)) (hs : base ≤ W.heap.size) : Msgs (W.alloc (.cells #[u] 22)) base (.slice (some ⟨W.heap.size, 0, none⟩) 1 1) [m] := by
  refine ⟨[u], ⟨rfl, .inr ⟨W.heap.size, 1, #[u], rfl, hs, heap_alloc_new W _, Nat.le_refl _, by decide, rfl, rfl⟩⟩, fun k u' m' hu hm => ?_⟩
  cases k with
  | zero =>
    simp only [List.getElem?_cons_zero, Option.some.injEq] at hu hm
    subst hu hm
    exact h.alloc _
  | succ k => simp at hu
theorem Msgs.snoc {W W' : World} {base : Nat} {v v' u : Value} {ms : List (List UInt8)} {m : List UInt8} {xs : List Value} (h1 : W.ownsRow base 22 1 v ms.length xs) (h2 : ∀ (k : Nat) (u : Value) (m : List UInt8), xs[k]? = some u → ms[k]? = some m → W.ownsRow base 5 1 u m.length (m.map bv))
    (hu : W.ownsRow base 5 1 u m.length (m.map bv)) (hg : W.grownBy W' v.ownBlock) (h3 : W'.ownsRow base 22 1 v' (ms.length + 1) (xs ++ [u])) : Msgs W' base v' (ms ++ [m]) := by
  have hl : xs.length = ms.length := by rw [h1.1, Nat.mul_one]
  refine ⟨xs ++ [u], by rw [List.length_append]; exact h3, fun k u' m' hu' hm' => ?_⟩
  by_cases hk : k < ms.length
  · rw [List.getElem?_append_left (by omega)] at hu' hm'
    exact own_grown (h2 k u' m' hu' hm') h1 (by decide) hg
  · rw [List.getElem?_append_right (by omega)] at hu' hm'
    rw [hl] at hu'
    cases hq : k - ms.length with
    | zero =>
      rw [hq] at hu' hm'
      simp only [List.getElem?_cons_zero, Option.some.injEq] at hu' hm'
      subst hu' hm'
      exact own_grown hu h1 (by decide) hg
    | succ q => rw [hq] at hu'; simp at hu'
theorem Tryd.infoBytes : (Tryd.prog.info? 22).map (fun i => (i.zero, i.size, i.bytes)) = some (some (.slice none 0 0), 1, 24) := by kernel_rfl

end Go.Proofs.YtkjnimcapjjfdaaDoor
