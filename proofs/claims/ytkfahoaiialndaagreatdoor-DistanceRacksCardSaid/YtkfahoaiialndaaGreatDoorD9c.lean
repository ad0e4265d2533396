/-
  What stage 9 stands on, cut out of older texts. (Gfa, Gfb, MatA, MatM, Gma, EraA, EraB.)
-/
import Derived.Laws.EntriesVeiled
import Derived.Maps.OwnIn
import Derived.BigQuiet
import Derived.Deep.LoopGhost
import Derived.Great.BuildSlice
import Derived.BigRegion
import Derived.Maps.AppendAt
import Derived.Test.YtkfahoaiialndaaGreatDoorD9a
import Derived.Test.YtkfahoaiialndaaGreatDoorD9b
namespace Go.Proofs.YtkfahoaiialndaaGreatDoor
set_option linter.unusedVariables false
set_option linter.unusedSimpArgs false
set_option linter.unusedSectionVars false

section
section
open Go.RowKit Go.Shelf
set_option linter.unusedVariables false
/-- A string as a cell. -/
abbrev sv (l : List UInt8) : Value := .string (str l)
end
end

section
set_option linter.unusedVariables false
set_option linter.unusedSimpArgs false
/-- The sum of the first n values. -/
def sm : Nat → (Nat → Nat) → Nat
  | 0, _ => 0
  | n + 1, f => sm n f ^^^ f n
theorem sm_congr : ∀ {n : Nat} {f g : Nat → Nat}, (∀ i, i < n → f i = g i) → sm n f = sm n g
  | 0, _, _, _ => rfl
  | n + 1, f, g, h => by
    show sm n f ^^^ f n = sm n g ^^^ g n
    rw [sm_congr (fun i hi => h i (by omega)), h n (by omega)]
theorem sm_zero : ∀ {n : Nat} {f : Nat → Nat}, (∀ i, i < n → f i = 0) → sm n f = 0
  | 0, _, _ => rfl
  | n + 1, f, h => by
    show sm n f ^^^ f n = 0
    rw [sm_zero (fun i hi => h i (by omega)), h n (by omega)]; rfl
theorem sm_xor : ∀ (n : Nat) (f g : Nat → Nat), sm n (fun i => f i ^^^ g i) = sm n f ^^^ sm n g
  | 0, _, _ => (xs 0).symm
  | n + 1, f, g => by
    show sm n (fun i => f i ^^^ g i) ^^^ (f n ^^^ g n) = (sm n f ^^^ f n) ^^^ (sm n g ^^^ g n)
    rw [sm_xor n f g, xx]
theorem sm_lt {m : Nat} : ∀ {n : Nat} {f : Nat → Nat}, (∀ i, i < n → f i < 2 ^ m) → sm n f < 2 ^ m
  | 0, _, _ => Nat.two_pow_pos m
  | n + 1, f, h => Nat.xor_lt_two_pow (sm_lt fun i hi => h i (by omega)) (h n (by omega))
theorem sm_mulR (m c : Nat) : ∀ (n : Nat) (f : Nat → Nat), mul m c (sm n f) = sm n (fun i => mul m c (f i))
  | 0, _ => mul_zeroR m c
  | n + 1, f => by
    show mul m c (sm n f ^^^ f n) = sm n (fun i => mul m c (f i)) ^^^ mul m c (f n)
    rw [mulR, sm_mulR m c n f]
theorem sm_mulL (m c : Nat) : ∀ (n : Nat) (f : Nat → Nat), mul m (sm n f) c = sm n (fun i => mul m (f i) c)
  | 0, _ => mul_zeroL m c
  | n + 1, f => by
    show mul m (sm n f ^^^ f n) c = sm n (fun i => mul m (f i) c) ^^^ mul m (f n) c
    rw [mulL, sm_mulL m c n f]
theorem sm_swap (k : Nat) : ∀ (n : Nat) (f : Nat → Nat → Nat), sm n (fun i => sm k (fun j => f i j)) = sm k (fun j => sm n (fun i => f i j))
  | 0, f => (sm_zero fun _ _ => rfl).symm
  | n + 1, f => by
    show sm n (fun i => sm k (fun j => f i j)) ^^^ sm k (fun j => f n j) = sm k (fun j => sm n (fun i => f i j) ^^^ f n j)
    rw [sm_swap k n f, sm_xor]
theorem sm_one : ∀ {n : Nat} {f : Nat → Nat} {j : Nat}, j < n → (∀ i, i < n → i ≠ j → f i = 0) → sm n f = f j
  | 0, _, _, h, _ => absurd h (Nat.not_lt_zero _)
  | n + 1, f, j, h, hz => by
    show sm n f ^^^ f n = f j
    by_cases e : j = n
    · subst e
      rw [sm_zero fun i hi => hz i (by omega) (by omega), zx]
    · rw [sm_one (by omega) (fun i hi hne => hz i (by omega) hne), hz n (by omega) (by omega), xz]
/-- Matrices: valid everywhere. -/
abbrev Mx := Nat → Nat → Nat
def Vm (m : Nat) (A : Mx) : Prop := ∀ i j, A i j < 2 ^ m
def Vv (m : Nat) (x : Nat → Nat) : Prop := ∀ i, x i < 2 ^ m
def tr (A : Mx) : Mx := fun i j => A j i
def idm : Mx := fun i j => if i = j then 1 else 0
section
variable {m : Nat} (hm : Fm m)
include hm
theorem idm_v : Vm m idm := fun i j => by unfold idm; split; exact fm_one hm; exact Nat.two_pow_pos m
end
/-- The first row from i on with an element but 0 in this column. -/
def fpv (M : Mx) (col : Nat) : Nat → Nat → Nat
  | 0, i => i
  | n + 1, i => if M i col = 0 then fpv M col n (i + 1) else i
theorem fpv_le (M : Mx) (col : Nat) : ∀ n i, i ≤ fpv M col n i ∧ fpv M col n i ≤ i + n
  | 0, i => ⟨Nat.le_refl _, Nat.le_refl _⟩
  | n + 1, i => by
    show i ≤ (if M i col = 0 then fpv M col n (i + 1) else i) ∧ (if M i col = 0 then fpv M col n (i + 1) else i) ≤ i + (n + 1)
    have := fpv_le M col n (i + 1)
    split <;> omega
theorem fpv_zero (M : Mx) (col : Nat) : ∀ n i k, i ≤ k → k < fpv M col n i → M k col = 0
  | 0, i, k, h1, h2 => absurd h2 (by show ¬ k < i; omega)
  | n + 1, i, k, h1, h2 => by
    have h2 : k < (if M i col = 0 then fpv M col n (i + 1) else i) := h2
    split at h2
    · rename_i h
      by_cases e : k = i
      · rw [e]; exact h
      · exact fpv_zero M col n (i + 1) k (by omega) h2
    · omega
theorem fpv_ne (M : Mx) (col : Nat) : ∀ n i, fpv M col n i < i + n → M (fpv M col n i) col ≠ 0
  | 0, i, h => absurd h (by show ¬ i < i + 0; omega)
  | n + 1, i, h => by
    have h : (if M i col = 0 then fpv M col n (i + 1) else i) < i + (n + 1) := h
    show M (if M i col = 0 then fpv M col n (i + 1) else i) col ≠ 0
    split
    · rename_i h0
      rw [if_pos h0] at h
      exact fpv_ne M col n (i + 1) (by omega)
    · rename_i h0
      exact h0
/-- The pivot's row: R if there is none. -/
def prow (M : Mx) (R col top : Nat) : Nat := fpv M col (R - top) top
theorem prow_le {M : Mx} {R col top : Nat} (h : top ≤ R) : top ≤ prow M R col top ∧ prow M R col top ≤ R := by
  have := fpv_le M col (R - top) top
  unfold prow; omega
theorem prow_zero {M : Mx} {R col top : Nat} (k : Nat) (h1 : top ≤ k) (h2 : k < prow M R col top) : M k col = 0 := fpv_zero M col _ _ k h1 h2
theorem prow_ne {M : Mx} {R col top : Nat} (h : top ≤ R) (h2 : prow M R col top < R) : M (prow M R col top) col ≠ 0 := fpv_ne M col _ _ (by unfold prow at h2; omega)
def swp (M : Mx) (a b : Nat) : Mx := fun i => if i = a then M b else if i = b then M a else M i
/-- One column's work on the rows that have been swapped. -/
def clr (m : Nat) (N : Mx) (top col : Nat) : Mx := fun i j => if i = top then mul m (N top j) (inv m (N top col)) else N i j ^^^ mul m (mul m (N top j) (inv m (N top col))) (N i col)
def stp (m R col : Nat) (s : Mx × List Nat) : Mx × List Nat :=
  if prow s.1 R col s.2.length < R then (clr m (swp s.1 s.2.length (prow s.1 R col s.2.length)) s.2.length col, s.2 ++ [col]) else s
/-- Elimination in the first columns. -/
def red (m R : Nat) (A : Mx) : Nat → Mx × List Nat
  | 0 => (A, [])
  | c + 1 => stp m R c (red m R A c)
theorem swp_v {m : Nat} {M : Mx} (h : Vm m M) (a b : Nat) : Vm m (swp M a b) := fun i j => by
  unfold swp; split
  · exact h _ _
  · split <;> exact h _ _
theorem clr_v {m : Nat} (hm : Fm m) {M : Mx} (h : Vm m M) (t c : Nat) : Vm m (clr m M t c) := fun i j => by
  unfold clr; split
  · exact mul_lt hm _ (h _ _)
  · exact Nat.xor_lt_two_pow (h _ _) (mul_lt hm _ (mul_lt hm _ (h _ _)))
theorem inv_ne {m : Nat} (hm : Fm m) {a : Nat} (ha : a < 2 ^ m) (h0 : a ≠ 0) : inv m a ≠ 0 := pw_ne hm ha h0 _
/-- A row times a vector. -/
def dot (m C : Nat) (r x : Nat → Nat) : Nat := sm C fun j => mul m (r j) (x j)
section
variable {m : Nat} (hm : Fm m)
include hm
theorem dot_lt {C : Nat} {r x : Nat → Nat} (hr : Vv m r) : dot m C r x < 2 ^ m := sm_lt fun j _ => mul_lt hm _ (hr j)
omit hm in
theorem dot_scale {C : Nat} {r x : Nat → Nat} {c : Nat} : dot m C (fun j => mul m (r j) c) x = mul m (dot m C r x) c := by
  unfold dot
  rw [sm_mulL]
  exact sm_congr fun j _ => mul_right m (r j) c (x j)
omit hm in
theorem dot_add (C : Nat) (r s x : Nat → Nat) : dot m C (fun j => r j ^^^ s j) x = dot m C r x ^^^ dot m C s x := by
  unfold dot
  rw [← sm_xor]
  exact sm_congr fun j _ => mulL m _ _ _
omit hm in
theorem dot_clr {C : Nat} {N : Mx} {x : Nat → Nat} (top col i : Nat) :
    dot m C (clr m N top col i) x = if i = top then mul m (dot m C (N top) x) (inv m (N top col)) else dot m C (N i) x ^^^ mul m (mul m (dot m C (N top) x) (inv m (N top col))) (N i col) := by
  have hs := dot_scale (m := m) (C := C) (r := N top) (x := x) (c := inv m (N top col))
  by_cases e : i = top
  · have h1 : clr m N top col i = fun j => mul m (N top j) (inv m (N top col)) := by unfold clr; funext j; rw [if_pos e]
    rw [if_pos e, ← hs, h1]
  · rw [if_neg e]
    have h1 : clr m N top col i = fun j => N i j ^^^ mul m (mul m (N top j) (inv m (N top col))) (N i col) := by unfold clr; funext j; rw [if_neg e]
    rw [h1, dot_add, dot_scale (r := fun j => mul m (N top j) (inv m (N top col))), hs]
end
/-- The vectors that a matrix takes to 0. -/
def Ker (m R C : Nat) (M : Mx) (x : Nat → Nat) : Prop := ∀ i, i < R → dot m C (M i) x = 0
theorem ker_swp {m R C : Nat} {M : Mx} {x : Nat → Nat} {a b : Nat} (ha : a < R) (hb : b < R) : Ker m R C (swp M a b) x ↔ Ker m R C M x := by
  constructor
  · intro h i hi
    by_cases e1 : i = a
    · subst e1
      have := h b hb
      unfold swp at this
      by_cases e : b = i
      · rw [if_pos e, e] at this; exact this
      · rw [if_neg e, if_pos rfl] at this; exact this
    · by_cases e2 : i = b
      · subst e2
        have := h a ha
        unfold swp at this
        rw [if_pos rfl] at this; exact this
      · have := h i hi
        unfold swp at this
        rw [if_neg e1, if_neg e2] at this; exact this
  · intro h i hi
    unfold swp
    by_cases e1 : i = a
    · rw [if_pos e1]; exact h b hb
    · rw [if_neg e1]
      by_cases e2 : i = b
      · rw [if_pos e2]; exact h a ha
      · rw [if_neg e2]; exact h i hi
section
variable {m : Nat} (hm : Fm m)
include hm
theorem ker_clr {R C : Nat} {N : Mx} (hN : Vm m N) {x : Nat → Nat} {top col : Nat} (ht : top < R) (h0 : N top col ≠ 0) : Ker m R C (clr m N top col) x ↔ Ker m R C N x := by
  constructor
  · intro h
    have h1 := h top ht
    rw [dot_clr, if_pos rfl] at h1
    have h2 : dot m C (N top) x = 0 := by
      by_cases e : dot m C (N top) x = 0
      · exact e
      · exact absurd h1 (mul_ne hm (dot_lt hm (hN top)) (inv_lt hm _) e (inv_ne hm (hN _ _) h0))
    intro i hi
    by_cases e : i = top
    · rw [e]; exact h2
    · have h3 := h i hi
      rw [dot_clr, if_neg e, h2, mul_zeroL, mul_zeroL, xz] at h3
      exact h3
  · intro h i hi
    rw [dot_clr, h top ht, mul_zeroL, mul_zeroL, xz]
    split
    · rfl
    · exact h i hi
end
/-- What elimination keeps. -/
structure Rd (m R : Nat) (A : Mx) (c : Nat) (M : Mx) (pv : List Nat) : Prop where
  v : Vm m M
  len : pv.length ≤ R
  lt : ∀ k, k < pv.length → pv.getD k 0 < c
  mono : ∀ k l, k < l → l < pv.length → pv.getD k 0 < pv.getD l 0
  one : ∀ k, k < pv.length → ∀ i, i < R → M i (pv.getD k 0) = if i = k then 1 else 0
  zero : ∀ i, pv.length ≤ i → i < R → ∀ j, j < c → M i j = 0
  ker : ∀ C x, Vv m x → (Ker m R C M x ↔ Ker m R C A x)
  full : pv.length = c ∨ ∃ j, j < c ∧ ∀ k, k < pv.length → pv.getD k 0 ≠ j
theorem getD_snoc_lt {l : List Nat} {x k : Nat} (h : k < l.length) : (l ++ [x]).getD k 0 = l.getD k 0 := by
  simp [List.getD_eq_getElem?_getD, List.getElem?_append_left h]
theorem getD_snoc_eq {l : List Nat} {x k : Nat} (h : k = l.length) : (l ++ [x]).getD k 0 = x := by
  subst h; simp [List.getD_eq_getElem?_getD]
theorem red_rd {m : Nat} (hm : Fm m) (R : Nat) {A : Mx} (hA : Vm m A) : ∀ c, Rd m R A c (red m R A c).1 (red m R A c).2
  | 0 => ⟨hA, Nat.zero_le _, fun k h => absurd h (Nat.not_lt_zero _), fun k l _ h => absurd h (Nat.not_lt_zero _), fun k h => absurd h (Nat.not_lt_zero _), fun _ _ _ j h => absurd h (Nat.not_lt_zero _), fun _ _ _ => Iff.rfl, .inl rfl⟩
  | c + 1 => by
    have ih := red_rd hm R hA c
    show Rd m R A (c + 1) (stp m R c (red m R A c)).1 (stp m R c (red m R A c)).2
    unfold stp
    generalize hs : red m R A c = s at ih ⊢
    clear hs
    obtain ⟨M, pv⟩ := s
    simp only at ih ⊢
    have hple := prow_le (M := M) (col := c) ih.len
    split
    · rename_i hp
      have hne := prow_ne ih.len hp
      generalize prow M R c pv.length = p at *
      obtain ⟨q, hq⟩ : ∃ q, q = pv.length := ⟨_, rfl⟩
      have hqR : q < R := by omega
      have hN0 : ∀ k, k < q → ∀ i, i < R → swp M q p i (pv.getD k 0) = if i = k then 1 else 0 := fun k hk i hi => by
        unfold swp
        by_cases e1 : i = q
        · rw [if_pos e1, ih.one k (by omega) p hp, if_neg (by omega), if_neg (by omega)]
        · rw [if_neg e1]
          by_cases e2 : i = p
          · rw [if_pos e2, ih.one k (by omega) q hqR, if_neg (by omega), if_neg (by omega)]
          · rw [if_neg e2, ih.one k (by omega) i hi]
      have hz : ∀ i, q ≤ i → i < R → ∀ j, j < c → swp M q p i j = 0 := fun i h1 h2 j hj => by
        unfold swp
        split
        · exact ih.zero p (by omega) hp j hj
        · split
          · exact ih.zero q (by omega) hqR j hj
          · exact ih.zero i (by omega) h2 j hj
      have hN := swp_v ih.v q p
      have hnt : swp M q p q c ≠ 0 := by unfold swp; rw [if_pos rfl]; exact hne
      have hker : ∀ C x, Vv m x → (Ker m R C (swp M q p) x ↔ Ker m R C A x) := fun C x hx => (ker_swp hqR hp).trans (ih.ker C x hx)
      rw [← hq]
      try simp only
      generalize swp M q p = N at *
      have hone : ∀ i, i < R → clr m N q c i c = if i = q then 1 else 0 := fun i hi => by
        unfold clr
        rw [mul_inv hm (hN q c) hnt, mul_oneL hm (hN i c), xs]
      refine ⟨clr_v hm hN q c, by rw [List.length_append, ← hq]; simp; omega, fun k hk => ?_, fun k l hkl hl => ?_, fun k hk i hi => ?_, fun i h1 h2 j hj => ?_, fun C x hx => (ker_clr hm hN hqR hnt).trans (hker C x hx), ?_⟩
      · rw [List.length_append, ← hq] at hk
        simp only [List.length_singleton] at hk
        by_cases e : k < q
        · rw [getD_snoc_lt (by omega)]
          have := ih.lt k (by omega)
          omega
        · rw [getD_snoc_eq (by omega)]; omega
      · rw [List.length_append, ← hq] at hl
        simp only [List.length_singleton] at hl
        rw [getD_snoc_lt (by omega)]
        by_cases e : l < q
        · rw [getD_snoc_lt (by omega)]; exact ih.mono k l hkl (by omega)
        · rw [getD_snoc_eq (by omega)]; exact ih.lt k (by omega)
      · rw [List.length_append, ← hq] at hk
        simp only [List.length_singleton] at hk
        by_cases e : k < q
        · rw [getD_snoc_lt (by omega)]
          unfold clr
          rw [hN0 k e q hqR, if_neg (show ¬ q = k by omega), mul_zeroL, mul_zeroL, xz, hN0 k e i hi]
          split
          · rw [if_neg (by omega)]
          · rfl
        · rw [getD_snoc_eq (by omega), hone i hi]
          obtain rfl : k = q := by omega
          rfl
      · rw [List.length_append, ← hq] at h1
        simp only [List.length_singleton] at h1
        by_cases e : j = c
        · rw [e, hone i h2, if_neg (by omega)]
        · unfold clr
          rw [if_neg (by omega), hz q (by omega) hqR j (by omega), mul_zeroL, mul_zeroL, xz, hz i (by omega) h2 j (by omega)]
      · rcases ih.full with h | ⟨j, h1, h2⟩
        · left; rw [List.length_append, ← hq]; simp; omega
        · right
          refine ⟨j, by omega, fun k hk => ?_⟩
          rw [List.length_append, ← hq] at hk
          simp only [List.length_singleton] at hk
          by_cases e : k < q
          · rw [getD_snoc_lt (by omega)]; exact h2 k (by omega)
          · rw [getD_snoc_eq (by omega)]; omega
    · rename_i hp
      have hpR : prow M R c pv.length = R := by omega
      refine ⟨ih.v, ih.len, fun k hk => Nat.lt_succ_of_lt (ih.lt k hk), ih.mono, ih.one, fun i h1 h2 j hj => ?_, ih.ker, ?_⟩
      · by_cases e : j = c
        · rw [e]; exact prow_zero i h1 (by rw [hpR]; exact h2)
        · exact ih.zero i h1 h2 j (by omega)
      · right
        exact ⟨c, by omega, fun k hk => Nat.ne_of_lt (ih.lt k hk)⟩
section
variable {m : Nat} (hm : Fm m)
include hm
/-- A vector with one 1. -/
theorem dot_unit {C : Nat} {r : Nat → Nat} {t : Nat} (ht : t < C) : dot m C r (fun x => if x = t then 1 else 0) = r t := by
  unfold dot
  have h : (sm C fun j => mul m (r j) (if j = t then 1 else 0)) = mul m (r t) (if t = t then 1 else 0) := sm_one (f := fun j => mul m (r j) (if j = t then 1 else 0)) ht (fun i _ hne => by show mul m (r i) (if i = t then 1 else 0) = 0; rw [if_neg hne, mul_zeroR])
  rw [if_pos rfl, mul_oneR hm] at h
  exact h
omit hm in
theorem dot_addR (C : Nat) (r x y : Nat → Nat) : dot m C r (fun j => x j ^^^ y j) = dot m C r x ^^^ dot m C r y := by
  unfold dot
  rw [← sm_xor]
  exact sm_congr fun j _ => mulR m _ _ _
/-- A vector that stands at these places. -/
def put (m n : Nat) (p : Nat → Nat) (y : Nat → Nat) : Nat → Nat := fun x => sm n fun k => mul m (y k) (if x = p k then 1 else 0)
omit hm in
theorem dot_put (hm : Fm m) {C n : Nat} {r p y : Nat → Nat} (hr : Vv m r) (hy : Vv m y) (hp : ∀ k, k < n → p k < C) : dot m C r (put m n p y) = sm n fun k => mul m (r (p k)) (y k) := by
  unfold dot put
  have e1 : ∀ j, mul m (r j) (sm n fun k => mul m (y k) (if j = p k then 1 else 0)) = sm n fun k => mul m (mul m (r j) (if j = p k then 1 else 0)) (y k) := fun j => by
    rw [sm_mulR]
    refine sm_congr fun k _ => ?_
    have h1 : (if j = p k then 1 else 0) < 2 ^ m := by split; exact fm_one hm; exact Nat.two_pow_pos m
    rw [mul_comm hm (hy k) h1, mul_assoc hm (hr j) h1 (hy k)]
  rw [sm_congr fun j _ => e1 j, sm_swap]
  refine sm_congr fun k hk => ?_
  rw [sm_one (hp k hk) (fun i _ hne => by rw [if_neg hne, mul_zeroR, mul_zeroL]), if_pos rfl, mul_oneR hm]
omit hm in
theorem put_v (hm : Fm m) {n : Nat} {p y : Nat → Nat} (hy : Vv m y) : Vv m (put m n p y) := fun x => sm_lt fun k _ => mul_lt hm _ (hy k)
/-- More columns than rows: some vector but 0 goes to 0. -/
theorem ker_ex {R C : Nat} (hRC : R < C) {A : Mx} (hA : Vm m A) : ∃ x, Vv m x ∧ (∃ j, j < C ∧ x j ≠ 0) ∧ Ker m R C A x := by
  have H := red_rd hm R hA C
  generalize (red m R A C).1 = M at *
  generalize (red m R A C).2 = pv at *
  rcases H.full with h | ⟨j, hj, hn⟩
  · have := H.len; omega
  have hy : Vv m (fun k => M k j) := fun k => H.v k j
  have hu : Vv m (fun x => if x = j then 1 else 0) := fun x => by
    show (if x = j then 1 else 0) < 2 ^ m
    split; exact fm_one hm; exact Nat.two_pow_pos m
  have hx : Vv m (fun x => (if x = j then 1 else 0) ^^^ put m pv.length (fun k => pv.getD k 0) (fun k => M k j) x) := fun x => Nat.xor_lt_two_pow (hu x) (put_v hm hy x)
  refine ⟨_, hx, ⟨j, hj, ?_⟩, (H.ker C _ hx).1 fun t ht => ?_⟩
  · show (if j = j then 1 else 0) ^^^ put m pv.length (fun k => pv.getD k 0) (fun k => M k j) j ≠ 0
    rw [if_pos rfl]
    unfold put
    rw [sm_zero (fun k hk => by rw [if_neg (Ne.symm (hn k hk)), mul_zeroR])]
    decide
  · rw [dot_addR, dot_unit hm hj, dot_put hm (H.v t) hy H.lt]
    by_cases e : t < pv.length
    · rw [sm_one e (fun k hk hne => by rw [H.one k hk t ht, if_neg (Ne.symm hne), mul_zeroL]), H.one t e t ht, if_pos rfl, mul_oneL hm (H.v t j), xs]
    · rw [H.zero t (by omega) ht j hj, sm_zero (fun k hk => by rw [H.one k hk t ht, if_neg (by omega), mul_zeroL]), xs]
end
end

section
open Go.RowKit
set_option linter.unusedVariables false
set_option linter.unusedSimpArgs false
/-- A matrix as it comes. -/
structure Mt where
  F : Int
  R : Int
  C : Int
  l : List Int
abbrev mtV (F R C : Int) (s : Value) : Value := .agg #[.int .i64 F, .int .i64 R, .int .i64 C, s]
/-- The cells of a struct's box. -/
abbrev mtC (F R C : Int) (s : Value) : List Value := [.int .i64 F, .int .i64 R, .int .i64 C, s]
/-- May a matrix have n rows? -/
def isz (n : Int) : Bool := decide (0 ≤ n ∧ n ≤ 32)
theorem isz_spec {n : Int} (h : isz n = true) : ∃ k : Nat, n = (k : Int) ∧ k ≤ 32 := by
  unfold isz at h
  have := of_decide_eq_true h
  exact ⟨n.toNat, by omega, by omega⟩
theorem isz_nat {n : Nat} (h : n ≤ 32) : isz (n : Int) = true := by unfold isz; apply decide_eq_true; omega
def Mt.f (a : Mt) (k : Nat) : Nat := (a.l.getD k 0).toNat
/-- A list of natural numbers as integers. -/
def nl (n : Nat) (f : Nat → Nat) : List Int := (List.range n).map fun k => (f k : Int)
theorem nl_len (n : Nat) (f : Nat → Nat) : (nl n f).length = n := by unfold nl; simp
theorem nl_at {n : Nat} (f : Nat → Nat) {k : Nat} (hk : k < n) : (nl n f)[k]? = some (f k : Int) := by unfold nl; simp [hk]
theorem nl_get {n : Nat} (f : Nat → Nat) (k : Nat) (h : k < (nl n f).length) : (nl n f)[k] = (f k : Int) := by
  have h2 := nl_at f (show k < n by rw [nl_len] at h; exact h)
  rw [List.getElem?_eq_getElem h] at h2
  exact Option.some.inj h2
theorem nl_congr {n : Nat} {f g : Nat → Nat} (h : ∀ k, k < n → f k = g k) : nl n f = nl n g := by
  unfold nl
  apply List.map_congr_left
  intro k hk
  rw [h k (List.mem_range.1 hk)]
/-- The matrix with these elements. -/
def mkM (m R C : Nat) (A : Mx) : Mt := ⟨(m : Int), (R : Int), (C : Int), nl (R * C) fun k => A (k / C) (k % C)⟩
def zeroM : Mt := ⟨0, 0, 0, []⟩
theorem ix_lt {i j R C : Nat} (hi : i < R) (hj : j < C) : i * C + j < R * C := by
  have : (i + 1) * C ≤ R * C := Nat.mul_le_mul_right _ hi
  rw [Nat.add_mul] at this
  omega
theorem ix_div {i j C : Nat} (hj : j < C) : (i * C + j) / C = i := by
  rw [Nat.mul_comm, Nat.mul_add_div (by omega), Nat.div_eq_of_lt hj, Nat.add_zero]
theorem ix_mod {i j C : Nat} (hj : j < C) : (i * C + j) % C = j := by
  rw [Nat.mul_comm, Nat.mul_add_mod, Nat.mod_eq_of_lt hj]
theorem ix_of {k R C : Nat} (hk : k < R * C) : k / C < R ∧ k % C < C ∧ k = k / C * C + k % C := by
  have hC : 0 < C := by rcases Nat.eq_zero_or_pos C with h | h; · subst h; simp at hk
                        · exact h
  refine ⟨by rw [Nat.div_lt_iff_lt_mul hC]; exact hk, Nat.mod_lt _ hC, ?_⟩
  rw [Nat.mul_comm]; exact (Nat.div_add_mod k C).symm
/-- Cells of integers. -/
theorem iv_one (l : List Int) (u : Value) (h : u ∈ l.map iv) : u.oneCell' = true := by
  obtain ⟨b, _, rfl⟩ := List.mem_map.1 h
  rfl
theorem iv_at {n : Nat} {f : Nat → Nat} {k : Nat} (hk : k < n) : ((nl n f).map iv)[k]? = some (.int .i64 (f k : Int)) := by
  rw [List.getElem?_map, nl_at f hk]; rfl
theorem set_nl {n : Nat} (f : Nat → Nat) (i x : Nat) (hi : i < n) : ((nl n f).map iv).set i (.int .i64 (x : Int)) = (nl n fun k => if k = i then x else f k).map iv := by
  apply List.ext_getElem
  · simp [nl_len]
  · intro k h1 h2
    rw [List.getElem_set]
    simp only [List.length_set, List.length_map, nl_len] at h1
    rw [List.getElem_map, List.getElem_map, nl_get, nl_get]
    by_cases e : k = i
    · rw [if_pos e.symm, if_pos e]
    · rw [if_neg (Ne.symm e), if_neg e]
theorem zeros_nl (n : Nat) : List.replicate n (Value.int .i64 0) = (nl n fun _ => 0).map iv := by
  apply List.ext_getElem
  · simp [nl_len]
  · intro k h1 h2
    rw [List.getElem_replicate, List.getElem_map, nl_get]
    rfl
theorem results_two {P : Program} {fn : Func} {p t : Tmp} {T : TypeId} (h : fn.results = #[.cell p T, .tmp t]) (tmps : Array Value) (w : World) (g : Nat) (ty : TypeId) (cs : List Value) (d : TypeDesc)
    (hp : tmps.getD p undef = .pointer (some ⟨g, 0, none⟩)) (hg : Blk w g ty cs) (hu : P.underlying T = some d) (hd : d.isRow = true) (hi : (P.info? T).map (·.size) = some cs.length) :
    (results fn tmps).run P w = .ok (.tuple #[.agg cs.toArray, tmps.getD t undef]) w := by
  have hl := run_loadVar_mid (P := P) w g 0 T cs d (fun j v hv => by rw [hg.cell, Nat.zero_add]; exact hv) hu hd hi
  have ha : ∀ W, (asAddr (.pointer (some ⟨g, 0, none⟩))).run P W = .ok ⟨g, 0, none⟩ W := fun _ => rfl
  simp only [results, h]
  simp only [List.mapM_cons, List.mapM_nil, hp, bind_pure_comp, map_pure, Array.mapM_eq_mapM_toList]
  simp [Sem.run_bind, ha, hl, Result.andThen]
end

section
section
open Go.RowKit
set_option linter.unusedVariables false
set_option maxHeartbeats 400000 in
theorem isz_any (n : Int) (w : World) : Calls Tryz.prog 100 #[.int .i64 n] w fun e w' => e = .returned (.bool (isz n)) ∧ w = w' := by
  unfold isz
  by_cases h0 : 0 ≤ n
  · by_cases h1 : n ≤ 32
    · rw [decide_eq_true ⟨h0, h1⟩]
      go_enter Tryz.func100, Tryz.ntmps100
      go_wp2_with fail
      go_ret
      exact ⟨rfl, rfl⟩
    · rw [decide_eq_false (fun h => h1 h.2)]
      go_enter Tryz.func100, Tryz.ntmps100
      go_wp2_with fail
      go_ret
      exact ⟨rfl, rfl⟩
  · rw [decide_eq_false (fun h => h0 h.1)]
    go_enter Tryz.func100, Tryz.ntmps100
    go_wp2_with fail
    go_ret
    exact ⟨rfl, rfl⟩
end
section
open Go.RowKit
set_option linter.unusedVariables false
theorem own_blk {w : World} {base n g : Nat} {e : TypeId} {xs : List Value} (h : w.ownsRow base e 1 (.slice (some ⟨g, 0, none⟩) n n) n xs) : Blk w g e xs ∧ base ≤ g := by
  rcases h.2 with ⟨h0, _⟩ | ⟨k, cap, cur, hv, hb, hg, h1, h2, h3, h4⟩
  · cases h0
  · injection hv with e1 e2 e3
    injection e1 with e1
    injection e1 with e1
    subst e1 e3
    refine ⟨?_, hb⟩
    have : cur.toList = xs := by
      rw [← h4, List.take_of_length_le]
      rw [Array.length_toList, h3]; exact Nat.le_refl _
    unfold Blk
    rw [← this, hg]
/-- 'make([]int, n)': a block of zeros. -/
theorem wpList_zeros (w : World) {ops : Array Oper} {rest : List Oper} {o : Oper} {a : Act} {Q : Exit → Act → World → Prop} (hg : o.guard = none) (l c : Operand) (hop : o.op = Op.makeSlice 26 l c)
    (n : Nat) (hl : a.eval l = .int .i64 (n : Int)) (hc : a.eval c = .int .i64 (n : Int)) (hn : n ≤ 100000)
    (hK : ∀ w', Hid (Blk w' w.heap.size 3 ((nl n fun _ => 0).map iv)) → Hid (Below w.heap.size w w') → wpList Tryz.prog ops Q rest (a.put o.dst (.slice (some ⟨w.heap.size, 0, none⟩) n n)) w') :
    wpList Tryz.prog ops Q (o :: rest) a w := by
  obtain ⟨i0, hi, hz0, hz1, hz2⟩ := info_parts (show (Tryz.prog.info? 3).map (fun i => (i.zero, i.size, i.bytes)) = some (some (Value.int .i64 0), 1, 8) by kernel_rfl)
  refine wpList_make_full w hg l c 26 hop w.heap.size 3 i0 (.int .i64 0) 1 Tryz.underlying26 hi hz0 hz1 .i64 .i64 (n : Int) (n : Int) n hl hc rfl rfl (by rw [hz2]; omega) (by unfold maxLen; omega) (Nat.le_refl _) ?_
  intro w2 hown hgr
  have hb := (own_blk hown).1
  rw [Nat.mul_one, show (madeCells (Value.int .i64 0).cells n).toList = List.replicate n (.int .i64 0) from toList_madeCells_one _ n, zeros_nl] at hb
  exact hK w2 hb ((Below.refl w.heap.size w).grown hgr (Nat.le_refl _) (by simp))
theorem World.size_alloc (w : World) (o : Obj) : (w.alloc o).heap.size = w.heap.size + 1 := by simp
theorem isz4 : (Tryz.prog.info? 55).map (·.size) = some 4 := by kernel_rfl
theorem mt_one (F R C : Int) {s : Value} (h : s.oneCell' = true) : ∀ u ∈ mtC F R C s, u.oneCell' = true := by
  intro u hu
  simp only [List.mem_cons, List.not_mem_nil, or_false] at hu
  rcases hu with rfl | rfl | rfl | rfl <;> first | rfl | exact h
set_option maxHeartbeats 1000000 in
theorem zeros_any (m : Int) (R C : Nat) (hR : R ≤ 40) (hC : C ≤ 40) (w : World) :
    Calls Tryz.prog 101 #[.int .i64 m, .int .i64 (R : Int), .int .i64 (C : Int)] w fun e w' => ∃ g, e = .returned (mtV m R C (.slice (some ⟨g, 0, none⟩) (R * C) (R * C))) ∧ w.heap.size ≤ g ∧ Blk w' g 3 ((nl (R * C) fun _ => 0).map iv) ∧ Below w.heap.size w w' := by
  have hrk : R * C ≤ 40 * 40 := Nat.mul_le_mul hR hC
  have hmul := nmul 3 R C (by omega)
  obtain ⟨n, hn⟩ : ∃ n, n = R * C := ⟨_, rfl⟩
  rw [← hn] at hrk hmul ⊢
  clear hn
  have HB0 := hideIt (Blk.new w 55 (mtC 0 0 0 (.slice none 0 0)))
  have HW0 := hideIt (below_new w (.cells (mtC 0 0 0 (.slice none 0 0)).toArray 55))
  go_enter Tryz.func101, Tryz.ntmps101
  go_wp2_with (first
    | ((with_reducible refine at_make ?_); refine wpList_zeros _ rfl (.tmp 12) (.tmp 12) rfl n rfl rfl (by omega) ?_; intro w2 HB2 HW2)
    | ((with_reducible refine at_store ?_); refine wpList_put rfl 55 (.tmp 6) (.tmp 14) rfl w.heap.size (mtC m R C (.slice (some ⟨w.heap.size + 1, 0, none⟩) n n)) (mtC 0 0 0 (.slice none 0 0)) 55 rfl rfl (HB0.out.kept HW2.out HB0.out.lt) isz4 rfl (mt_one _ _ _ rfl) ?_; intro w3 ht3 hb3; have HT3 := hideIt ht3; have HB3 := hideIt hb3; clear ht3 hb3))
  have h2 := HB2.out
  rw [World.size_alloc] at h2
  exact bodyPost_ret (ret_blk rfl HB3.out _ rfl Tryz.underlying55 rfl isz4) rfl ⟨w.heap.size + 1, rfl, by omega, HT3.out.blk h2 (by omega), HT3.out.below (HW0.out.trans (HW2.out.mono HW0.out.size)) (Nat.le_refl _)⟩
/-- Where row i of a matrix begins. -/
def rowA (A : Option Addr) (c k : Nat) : Option Addr := if c = k then A else A.map (·.add k)
theorem cut_is (A : Option Addr) {n c p q : Nat} (hk : p ≤ q) (hn : q ≤ n) (hc : n ≤ c) (W : World) :
    (Instr.sliceAt 26 (.slice A n c) (some (.int .i64 (p : Int))) (some (.int .i64 (q : Int))) none).run Tryz.prog W = .ok (.slice (rowA A c p) (q - p) (c - p)) W := by
  have hs : ∀ W, (sizeOf 3).run Tryz.prog W = .ok 1 W := fun W => by kernel_rfl
  have hel : Tryz.prog.elem 26 = 3 := by simp [Program.elem, Tryz.underlying26]
  rw [run_sliceAt_slice W _ _ _ _ _ (by rw [hel]; exact Tryz.underlying26), run_slice_lh W _ A n c (by rw [hel]; exact Tryz.underlying26) .i64 .i64 p q (by omega) (by omega) (by omega), hel, hs]
  simp only [Result.andThen, sliced, Int.toNat_natCast, Nat.mul_one, rowA]
theorem sl_row {w : World} {B : Nat} {A : Option Addr} {n c : Nat} {xs : List Value} (h : Sl w B A 1 n xs) {p q : Nat} (hk : p ≤ q) (hn : q ≤ n) (hc : n ≤ c) : Sl w B (rowA A c p) 1 (q - p) ((xs.drop p).take (q - p)) := by
  have h2 := (h.drop (k := p) (cap := c) (by omega) hc).take (k := q - p) (by omega)
  rw [Nat.mul_one, Nat.mul_one] at h2
  exact h2
set_option maxHeartbeats 1000000 in
theorem row_any (F : Int) (R C : Nat) (A : Option Addr) (n c i : Nat) (hi : i < R) (hR : R ≤ 40) (hC : C ≤ 40) (hn : R * C ≤ n) (hc : n ≤ c) (w : World) :
    Calls Tryz.prog 102 #[mtV F R C (.slice A n c), .int .i64 (i : Int)] w fun e w' => e = .returned (.slice (rowA A c (i * C)) C (c - i * C)) ∧ Below w.heap.size w w' := by
  obtain ⟨i1, hi1⟩ : ∃ i1, i1 = i + 1 := ⟨_, rfl⟩
  have hle : i1 * C ≤ R * C := Nat.mul_le_mul_right _ (by omega)
  have hle2 : R * C ≤ 40 * 40 := Nat.mul_le_mul hR hC
  have hpq : i1 * C = i * C + C := by rw [hi1, Nat.add_mul, Nat.one_mul]
  have hmul := nmul 3 i C (by omega)
  have hinc := inc_c 3 i (by omega)
  rw [← hi1] at hinc
  have hmul2 := nmul 3 i1 C (by omega)
  have hcut := cut_is A (n := n) (c := c) (p := i * C) (q := i1 * C) (by omega) (by omega) hc
  rw [show i1 * C - i * C = C by omega] at hcut
  generalize i1 * C = q at *
  generalize i * C = p at *
  clear hle hle2 hpq hi1 hi
  go_enter Tryz.func102, Tryz.ntmps102
  go_wp2_with fail
  go_ret
  exact ⟨rfl, below_new w _⟩
end
section
open Go.RowKit
set_option linter.unusedVariables false
/-- Cells that S does not name are as they were; no block has turned its kind. -/
structure Sel (S : Nat → Nat → Prop) (w w' : World) : Prop where
  os : w'.os = w.os
  tape : w'.tape = w.tape
  output : w'.output = w.output
  size : w.heap.size ≤ w'.heap.size
  cell : ∀ k o, k < w.heap.size → ¬ S k o → w'.cell? ⟨k, o, none⟩ = w.cell? ⟨k, o, none⟩
  frozen : ∀ k o, k < w.heap.size → w'.frozen? ⟨k, o, none⟩ = w.frozen? ⟨k, o, none⟩
  block : ∀ k, k < w.heap.size → (∀ o, ¬ S k o) → w'.heap[k]? = w.heap[k]?
  kind : ∀ k t cs, Blk w k t cs → ∃ cs', cs'.length = cs.length ∧ Blk w' k t cs'
section
variable {S S' : Nat → Nat → Prop} {a b c : World}
theorem Sel.refl (S : Nat → Nat → Prop) (w : World) : Sel S w w := ⟨rfl, rfl, rfl, Nat.le_refl _, fun _ _ _ _ => rfl, fun _ _ _ => rfl, fun _ _ _ => rfl, fun _ _ cs h => ⟨cs, rfl, h⟩⟩
theorem Sel.trans (h : Sel S a b) (k : Sel S b c) : Sel S a c :=
  ⟨k.os.trans h.os, k.tape.trans h.tape, k.output.trans h.output, Nat.le_trans h.size k.size,
    fun i o hi hs => (k.cell i o (Nat.lt_of_lt_of_le hi h.size) hs).trans (h.cell i o hi hs), fun i o hi => (k.frozen i o (Nat.lt_of_lt_of_le hi h.size)).trans (h.frozen i o hi),
    fun i hi hs => (k.block i (Nat.lt_of_lt_of_le hi h.size) hs).trans (h.block i hi hs),
    fun i t cs hb => by
      obtain ⟨c1, h1, h2⟩ := h.kind i t cs hb
      obtain ⟨c2, h3, h4⟩ := k.kind i t c1 h2
      exact ⟨c2, h3.trans h1, h4⟩⟩
theorem Sel.wide (h : Sel S a b) (hs : ∀ k o, S k o → S' k o) : Sel S' a b :=
  ⟨h.os, h.tape, h.output, h.size, fun k o hk hn => h.cell k o hk (fun q => hn (hs k o q)), h.frozen, fun k hk hn => h.block k hk (fun o q => hn o (hs k o q)), h.kind⟩
theorem Sel.of_below (S : Nat → Nat → Prop) (h : Below a.heap.size a b) : Sel S a b :=
  ⟨h.os, h.tape, h.output, h.size, fun k o hk _ => h.cell (p := ⟨k, o, none⟩) hk, fun k o hk => h.frozen (p := ⟨k, o, none⟩) hk, fun k hk _ => h.block k hk, fun k t cs hb => ⟨cs, rfl, hb.kept h hb.lt⟩⟩
theorem Sel.below {B : Nat} (h : Sel S a b) (hB : B ≤ a.heap.size) (hs : ∀ k o, k < B → ¬ S k o) : Below B a b :=
  ⟨h.os, h.tape, h.output, h.size, fun k hk => h.block k (Nat.lt_of_lt_of_le hk hB) (fun o => hs k o hk)⟩
theorem Sel.setCell (h : Sel S a b) {k o : Nat} (hs : S k o) (u : Value) : Sel S a (b.setCell ⟨k, o, none⟩ u) := by
  refine h.trans ⟨rfl, rfl, rfl, by simp [World.setCell], fun i q hi hn => ?_, fun i q hi => World.frozen?_setCell _ _ _ _, fun i hi hn => heap_setCell_other _ _ _ _ (fun e => hn o (e ▸ hs)), fun i t cs hb => ?_⟩
  · exact World.cell?_setCell_other _ _ _ _ (by intro hh; injection hh with h1 h2; subst h1 h2; exact hn hs)
  · by_cases e : i = k
    · subst e
      exact ⟨cs.set o u, by simp, hb.store o u⟩
    · exact ⟨cs, rfl, hb.store_other e⟩
theorem Sel.blk (h : Sel S a b) {k : Nat} {t : TypeId} {cs : List Value} (hb : Blk a k t cs) (hs : ∀ o, ¬ S k o) : Blk b k t cs := (h.block k hb.lt hs).trans hb
/-- A block whose cells are known again. -/
theorem Sel.cells (h : Sel S a b) {k : Nat} {t : TypeId} {cs ds : List Value} (hb : Blk a k t cs) (hl : ds.length = cs.length) (hd : ∀ j u, ds[j]? = some u → b.cell? ⟨k, j, none⟩ = some u) : Blk b k t ds := by
  obtain ⟨c2, h1, h2⟩ := h.kind k t cs hb
  have : c2 = ds := by
    apply List.ext_getElem
    · omega
    · intro j h3 h4
      have h5 := hd j _ (List.getElem?_eq_getElem h4)
      rw [h2.cell, List.getElem?_eq_getElem h3] at h5
      exact Option.some.inj h5
  rw [← this]; exact h2
end
theorem Tabs.sel {S : Nat → Nat → Prop} {w w' : World} (h : Tabs w) (hs : Sel S w w') (hn : ∀ o, ¬ S 0 o) : Tabs w' :=
  ⟨Nat.lt_of_lt_of_le h.lo hs.size, fun j hj => (hs.cell _ j h.lo (hn j)).trans (h.tab j hj)⟩
/-- n integers at a place. -/
structure Ints (w : World) (A : Option Addr) (b o n : Nat) (f : Nat → Nat) : Prop where
  adr : 0 < n → A = some ⟨b, o, none⟩
  lt : 0 < n → b < w.heap.size
  cell : ∀ j, j < n → w.cell? ⟨b, o + j, none⟩ = some (.int .i64 (f j : Int))
theorem Ints.sel {S : Nat → Nat → Prop} {w w' : World} {A : Option Addr} {b o n : Nat} {f : Nat → Nat} (h : Ints w A b o n f) (hs : Sel S w w') (hn : ∀ j, j < n → ¬ S b (o + j)) : Ints w' A b o n f :=
  ⟨h.adr, fun h0 => Nat.lt_of_lt_of_le (h.lt h0) hs.size, fun j hj => (hs.cell b _ (h.lt (by omega)) (hn j hj)).trans (h.cell j hj)⟩
theorem Ints.below {B : Nat} {w w' : World} {A : Option Addr} {b o n : Nat} {f : Nat → Nat} (h : Ints w A b o n f) (hb : Below B w w') (hB : 0 < n → b < B) : Ints w' A b o n f :=
  ⟨h.adr, fun h0 => Nat.lt_of_lt_of_le (h.lt h0) hb.size, fun j hj => (hb.cell (p := ⟨b, o + j, none⟩) (hB (by omega))).trans (h.cell j hj)⟩
end
section
open Go.RowKit
set_option linter.unusedVariables false
/-- Where the rows lie. -/
structure RD where
  ad : Nat → Option Addr
  b : Nat → Nat
  o : Nat → Nat
  c : Nat → Nat
/-- R rows of n integers, under the slices of block g. -/
structure EM (w : World) (B g R n : Nat) (D : RD) (M : Mx) : Prop where
  glt : g < w.heap.size
  gB : B ≤ g
  hdr : ∀ i, i < R → w.cell? ⟨g, i, none⟩ = some (.slice (D.ad i) n (D.c i))
  hfr : ∀ i, i < R → w.frozen? ⟨g, i, none⟩ = false
  cap : ∀ i, i < R → n ≤ D.c i ∧ D.c i ≤ maxLen
  row : ∀ i, i < R → Ints w (D.ad i) (D.b i) (D.o i) n (M i)
  low : 0 < n → ∀ i, i < R → B ≤ D.b i ∧ D.b i ≠ g
  free : ∀ i, i < R → ∀ j, j < n → w.frozen? ⟨D.b i, D.o i + j, none⟩ = false
  apart : ∀ i k, i < R → k < R → i ≠ k → ∀ j l, j < n → l < n → ¬ (D.b i = D.b k ∧ D.o i + j = D.o k + l)
theorem EM.below {w w' : World} {B g R n : Nat} {D : RD} {M : Mx} (h : EM w B g R n D M) (hb : Below w.heap.size w w') : EM w' B g R n D M :=
  ⟨Nat.lt_of_lt_of_le h.glt hb.size, h.gB, fun i hi => (hb.cell (p := ⟨g, i, none⟩) h.glt).trans (h.hdr i hi), fun i hi => (hb.frozen (p := ⟨g, i, none⟩) h.glt).trans (h.hfr i hi), h.cap,
    fun i hi => (h.row i hi).below hb (h.row i hi).lt, h.low, fun i hi j hj => (hb.frozen (p := ⟨D.b i, D.o i + j, none⟩) ((h.row i hi).lt (by omega))).trans (h.free i hi j hj), h.apart⟩
theorem EM.congr {w : World} {B g R n : Nat} {D : RD} {M N : Mx} (h : EM w B g R n D M) (he : ∀ i j, i < R → j < n → M i j = N i j) : EM w B g R n D N :=
  ⟨h.glt, h.gB, h.hdr, h.hfr, h.cap, fun i hi => ⟨(h.row i hi).adr, (h.row i hi).lt, fun j hj => by rw [← he i j hi hj]; exact (h.row i hi).cell j hj⟩, h.low, h.free, h.apart⟩
def RD.swap (D : RD) (i k : Nat) : RD := ⟨fun x => D.ad (if x = i then k else if x = k then i else x), fun x => D.b (if x = i then k else if x = k then i else x), fun x => D.o (if x = i then k else if x = k then i else x), fun x => D.c (if x = i then k else if x = k then i else x)⟩
theorem swp_row (M : Mx) (i k x : Nat) : swp M i k x = M (if x = i then k else if x = k then i else x) := by
  unfold swp
  split
  · rfl
  · split <;> rfl
/-- The header with its slices swapped, all else as it was. -/
theorem EM.swapped {w w' : World} {B g R n : Nat} {D : RD} {M : Mx} (h : EM w B g R n D M) {i k : Nat} (hi : i < R) (hk : k < R) (hs : Sel (fun b _ => b = g) w w') (hc : ∀ x, x < R → w'.cell? ⟨g, x, none⟩ = some (.slice ((D.swap i k).ad x) n ((D.swap i k).c x))) :
    EM w' B g R n (D.swap i k) (swp M i k) := by
  have hx : ∀ x, x < R → (if x = i then k else if x = k then i else x) < R := fun x hx => by split; exact hk; split; exact hi; exact hx
  have hinj : ∀ x y, x ≠ y → (if x = i then k else if x = k then i else x) ≠ (if y = i then k else if y = k then i else y) := fun x y hne => by
    split <;> split <;> (try split) <;> (try split) <;> omega
  refine ⟨Nat.lt_of_lt_of_le h.glt hs.size, h.gB, hc, fun x hx => (hs.frozen g x h.glt).trans (h.hfr x hx), fun x hx' => h.cap _ (hx x hx'), fun x hx' => ?_, fun h0 x hx' => h.low h0 _ (hx x hx'), fun x hx' j hj => ?_, fun x y hx1 hy hne j l hj hl => h.apart _ _ (hx x hx1) (hx y hy) (hinj x y hne) j l hj hl⟩
  · rw [swp_row]
    have hr := h.row _ (hx x hx')
    exact hr.sel hs (fun j hj => (h.low (by omega) _ (hx x hx')).2)
  · have hr := h.row _ (hx x hx')
    exact (hs.frozen _ _ (hr.lt (by omega))).trans (h.free _ (hx x hx') j hj)
/-- One row's cells new, all else as it was. -/
theorem EM.added {w w' : World} {B g R n : Nat} {D : RD} {M : Mx} (h : EM w B g R n D M) {i : Nat} (hi : i < R) {f : Nat → Nat} (hI : Ints w' (D.ad i) (D.b i) (D.o i) n f) (hs : Sel (fun k q => k = D.b i ∧ D.o i ≤ q ∧ q < D.o i + n) w w') :
    EM w' B g R n D (fun r j => if r = i then f j else M r j) := by
  refine ⟨Nat.lt_of_lt_of_le h.glt hs.size, h.gB, fun r hr => (hs.cell g r h.glt (fun q => (h.low (by omega) i hi).2 q.1.symm)).trans (h.hdr r hr), fun r hr => (hs.frozen g r h.glt).trans (h.hfr r hr), h.cap, fun r hr => ?_, h.low, fun r hr j hj => (hs.frozen _ _ ((h.row r hr).lt (by omega))).trans (h.free r hr j hj), h.apart⟩
  by_cases e : r = i
  · subst e
    exact ⟨hI.adr, hI.lt, fun j hj => by show _ = some (Value.int .i64 ((if r = r then f j else M r j : Nat) : Int)); rw [if_pos rfl]; exact hI.cell j hj⟩
  · have h2 := (h.row r hr).sel hs (fun j hj q => h.apart r i hr hi e j (D.o r + j - D.o i) hj (by omega) ⟨q.1, by omega⟩)
    exact ⟨h2.adr, h2.lt, fun j hj => by show _ = some (Value.int .i64 ((if r = i then f j else M r j : Nat) : Int)); rw [if_neg e]; exact h2.cell j hj⟩
def RD.new (D : RD) (i g n : Nat) : RD := ⟨fun x => if x = i then some ⟨g, 0, none⟩ else D.ad x, fun x => if x = i then g else D.b x, fun x => if x = i then 0 else D.o x, fun x => if x = i then n else D.c x⟩
end
section
open Go.RowKit
set_option linter.unusedVariables false
theorem Sel.then {S S' : Nat → Nat → Prop} {a b c : World} (h : Sel S a b) (k : Sel S' b c) (hs : ∀ i o, i < a.heap.size → S' i o → S i o) : Sel S a c :=
  ⟨k.os.trans h.os, k.tape.trans h.tape, k.output.trans h.output, Nat.le_trans h.size k.size,
    fun i o hi hn => (k.cell i o (Nat.lt_of_lt_of_le hi h.size) (fun q => hn (hs i o hi q))).trans (h.cell i o hi hn), fun i o hi => (k.frozen i o (Nat.lt_of_lt_of_le hi h.size)).trans (h.frozen i o hi),
    fun i hi hn => (k.block i (Nat.lt_of_lt_of_le hi h.size) (fun o q => hn o (hs i o hi q))).trans (h.block i hi hn),
    fun i t cs hb => by
      obtain ⟨c1, h1, h2⟩ := h.kind i t cs hb
      obtain ⟨c2, h3, h4⟩ := k.kind i t c1 h2
      exact ⟨c2, h3.trans h1, h4⟩⟩
theorem Sel.later {S : Nat → Nat → Prop} {a b c : World} (h : Sel S a b) (k : Below a.heap.size b c) : Sel S a c :=
  ⟨k.os.trans h.os, k.tape.trans h.tape, k.output.trans h.output, Nat.le_trans h.size k.size,
    fun i o hi hn => (k.cell (p := ⟨i, o, none⟩) hi).trans (h.cell i o hi hn), fun i o hi => (k.frozen (p := ⟨i, o, none⟩) hi).trans (h.frozen i o hi),
    fun i hi hn => (k.block i hi).trans (h.block i hi hn),
    fun i t cs hb => by
      obtain ⟨c1, h1, h2⟩ := h.kind i t cs hb
      exact ⟨c1, h1, h2.kept k hb.lt⟩⟩
/-- The pivots as cells. -/
abbrev pvC (pv : List Nat) : List Value := (nl pv.length fun k => pv.getD k 0).map iv
theorem pvC_snoc (pv : List Nat) (c : Nat) : pvC (pv ++ [c]) = pvC pv ++ [.int .i64 (c : Int)] := by
  have h : (nl (pv ++ [c]).length fun k => (pv ++ [c]).getD k 0) = (nl pv.length fun k => pv.getD k 0) ++ [(c : Int)] := by
    apply List.ext_getElem
    · rw [nl_len, List.length_append, List.length_append, nl_len]; rfl
    · intro k h1 h2
      rw [nl_get]
      rw [nl_len, List.length_append] at h1
      simp only [List.length_singleton] at h1
      by_cases e : k < pv.length
      · rw [List.getElem_append_left (by rw [nl_len]; exact e), nl_get, getD_snoc_lt e]
      · rw [List.getElem_append_right (by rw [nl_len]; omega), getD_snoc_eq (by omega)]
        simp
  unfold pvC
  rw [h, List.map_append]
  rfl
end
section
open Go.RowKit
set_option linter.unusedVariables false
/-- The rows while the multiples are added. -/
def half (m : Nat) (N : Mx) (top col i : Nat) : Mx := fun r j => if r = top then mul m (N top j) (inv m (N top col)) else if r < i then N r j ^^^ mul m (mul m (N top j) (inv m (N top col))) (N r col) else N r j
theorem half_at {m : Nat} {N : Mx} {top col i : Nat} (h : i ≠ top) : half m N top col i i col = N i col := by
  unfold half
  rw [if_neg h, if_neg (by omega)]
theorem half_skip (m : Nat) (N : Mx) (top col : Nat) : half m N top col top = half m N top col (top + 1) := by
  funext r j
  unfold half
  by_cases e2 : r = top
  · rw [if_pos e2, if_pos e2]
  · rw [if_neg e2, if_neg e2]
    by_cases e3 : r < top
    · rw [if_pos e3, if_pos (by omega)]
    · rw [if_neg e3, if_neg (by omega)]
theorem half_all (m : Nat) (N : Mx) (top col R r j : Nat) (hr : r < R) : half m N top col R r j = clr m N top col r j := by
  unfold half clr
  by_cases e : r = top
  · rw [if_pos e, if_pos e]
  · rw [if_neg e, if_neg e, if_pos hr]
theorem half_v {m : Nat} (hm : Fm m) {N : Mx} (hN : Vm m N) (top col i : Nat) : Vm m (half m N top col i) := fun r j => by
  unfold half
  split
  · exact mul_lt hm _ (hN _ _)
  · split
    · exact Nat.xor_lt_two_pow (hN _ _) (mul_lt hm _ (mul_lt hm _ (hN _ _)))
    · exact hN _ _
theorem int_neqF6 (t : TypeId) {a b : Int} (h : a = b) : binOp .neq t (.int .i64 a) (.int .i64 b) = pure (.bool false) := by
  rw [binOp_neq, h]; simp
theorem int_neqT6 (t : TypeId) {a b : Int} (h : a ≠ b) : binOp .neq t (.int .i64 a) (.int .i64 b) = pure (.bool true) := by
  have h2 : (a != b) = true := by rw [bne_iff_ne]; exact h
  rw [binOp_neq, h2]
end
section
open Go.RowKit
set_option linter.unusedVariables false
/-- A matrix that comes back, and an error. -/
def MRes (w : World) (r : Mt × Int) (e : Ending) (w' : World) : Prop :=
  ∃ s, e = .returned (.tuple #[mtV r.1.F r.1.R r.1.C s, .int .i64 r.2]) ∧ w'.ownsRow w.heap.size 3 1 s r.1.l.length (r.1.l.map iv) ∧ Below w.heap.size w w'
/-- The elements as a row of numbers. -/
abbrev gl (C : Nat) (E : Mx) : Nat → Nat := fun k => E (k / C) (k % C)
theorem gl_at {C : Nat} (E : Mx) {i j : Nat} (hj : j < C) : gl C E (i * C + j) = E i j := by
  show E ((i * C + j) / C) ((i * C + j) % C) = _
  rw [ix_div hj, ix_mod hj]
theorem mk_len (m R C : Nat) (E : Mx) : (mkM m R C E).l.length = R * C := nl_len _ _
theorem Ints.congr {w : World} {A : Option Addr} {b o n : Nat} {f g : Nat → Nat} (h : Ints w A b o n f) (he : ∀ j, j < n → f j = g j) : Ints w A b o n g :=
  ⟨h.adr, h.lt, fun j hj => by rw [← he j hj]; exact h.cell j hj⟩
/-- A row of a matrix. -/
theorem Ints.row {w : World} {A : Option Addr} {b o R C c : Nat} {E : Mx} (h : Ints w A b o (R * C) (gl C E)) {i : Nat} (hi : i < R) (hc : R * C ≤ c) : Ints w (rowA A c (i * C)) b (o + i * C) C (E i) := by
  have hle : (i + 1) * C ≤ R * C := Nat.mul_le_mul_right _ hi
  rw [Nat.add_mul, Nat.one_mul] at hle
  refine ⟨fun h0 => ?_, fun h0 => h.lt (by omega), fun j hj => ?_⟩
  · unfold rowA
    rw [if_neg (by omega), h.adr (by omega)]
    simp [addr_add]
  · rw [Nat.add_assoc, h.cell (i * C + j) (by omega), gl_at E hj]
end
section
open Go.RowKit
set_option linter.unusedVariables false
def upd2 (M : Mx) (i j x : Nat) : Mx := fun r q => if r = i ∧ q = j then x else M r q
theorem gl_set {R C : Nat} (M : Mx) {i j : Nat} (x : Nat) (hi : i < R) (hj : j < C) : ((nl (R * C) (gl C M)).map iv).set (i * C + j) (.int .i64 (x : Int)) = (nl (R * C) (gl C (upd2 M i j x))).map iv := by
  rw [set_nl _ _ _ (ix_lt hi hj)]
  congr 1
  apply nl_congr
  intro k hk
  obtain ⟨h1, h2, h3⟩ := ix_of hk
  show (if k = i * C + j then x else M (k / C) (k % C)) = if k / C = i ∧ k % C = j then x else M (k / C) (k % C)
  by_cases e : k = i * C + j
  · rw [if_pos e, if_pos (by rw [e, ix_div hj, ix_mod hj]; exact ⟨rfl, rfl⟩)]
  · rw [if_neg e, if_neg (fun q => e (by rw [h3, q.1, q.2]))]
theorem gl_congr {R C : Nat} {M N : Mx} (h : ∀ i j, i < R → j < C → M i j = N i j) : (nl (R * C) (gl C M)).map iv = (nl (R * C) (gl C N)).map iv := by
  congr 1
  apply nl_congr
  intro k hk
  obtain ⟨h1, h2, _⟩ := ix_of hk
  exact h _ _ h1 h2
theorem row_own {g R C i : Nat} (hi : i < R) (h0 : 0 < C) : rowA (some ⟨g, 0, none⟩) (R * C) (i * C) = some ⟨g, i * C, none⟩ := by
  have hle : (i + 1) * C ≤ R * C := Nat.mul_le_mul_right _ hi
  rw [Nat.add_mul, Nat.one_mul] at hle
  unfold rowA
  rw [if_neg (by omega)]
  simp [addr_add]
theorem own_of_blk {w : World} {base g n : Nat} {e : TypeId} {xs : List Value} (h : Blk w g e xs) (hb : base ≤ g) (hl : xs.length = n) (hn : n ≤ maxLen) : w.ownsRow base e 1 (.slice (some ⟨g, 0, none⟩) n n) n xs :=
  ⟨by rw [hl, Nat.mul_one], .inr ⟨g, n, xs.toArray, rfl, hb, h, Nat.le_refl _, hn, by simp [hl], by rw [Nat.mul_one, ← hl]; simp⟩⟩
theorem Sel.at_ {w6 w : World} {gp : Nat} (h : Sel (fun k _ => k = gp) w6 w) {p : Nat} {t : TypeId} {cs : List Value} (hb : Blk w6 p t cs) (hne : p ≠ gp) : Blk w p t cs := h.blk hb (fun _ q => hne q)
/-- The world that a maker of a matrix works on: its box, its block of cells, the result's cell. -/
structure Mk (w0 w6 : World) (pr p6 gp m R C : Nat) (w : World) (M : Mx) : Prop where
  w06 : Below w0.heap.size w0 w6
  pr6 : Blk w6 pr 55 (mtC 0 0 0 (.slice none 0 0))
  b6 : Blk w6 p6 55 (mtC (m : Int) (R : Int) (C : Int) (.slice (some ⟨gp, 0, none⟩) (R * C) (R * C)))
  g6 : gp < w6.heap.size
  prl : w0.heap.size ≤ pr
  gl0 : w0.heap.size ≤ gp
  ne1 : pr ≠ gp
  ne2 : p6 ≠ gp
  sel : Sel (fun k _ => k = gp) w6 w
  cells : Blk w gp 3 ((nl (R * C) (gl C M)).map iv)
section
variable {w0 w6 : World} {pr p6 gp m R C : Nat} {w : World} {M : Mx}
theorem Mk.low (h : Mk w0 w6 pr p6 gp m R C w M) : Below w0.heap.size w0 w := h.w06.trans (h.sel.below h.w06.size (fun k o hk q => by have := h.gl0; omega))
theorem Mk.box (h : Mk w0 w6 pr p6 gp m R C w M) : Blk w p6 55 (mtC (m : Int) (R : Int) (C : Int) (.slice (some ⟨gp, 0, none⟩) (R * C) (R * C))) := h.sel.at_ h.b6 h.ne2
theorem Mk.res (h : Mk w0 w6 pr p6 gp m R C w M) : Blk w pr 55 (mtC 0 0 0 (.slice none 0 0)) := h.sel.at_ h.pr6 h.ne1
theorem Mk.next (h : Mk w0 w6 pr p6 gp m R C w M) {w' : World} {N : Mx} (hs : Sel (fun k _ => k = gp) w w') (hc : Blk w' gp 3 ((nl (R * C) (gl C N)).map iv)) : Mk w0 w6 pr p6 gp m R C w' N :=
  ⟨h.w06, h.pr6, h.b6, h.g6, h.prl, h.gl0, h.ne1, h.ne2, h.sel.trans hs, hc⟩
theorem Mk.below (h : Mk w0 w6 pr p6 gp m R C w M) {w' : World} (hb : Below w.heap.size w w') : Mk w0 w6 pr p6 gp m R C w' M := h.next (Sel.of_below _ hb) (h.cells.kept hb h.cells.lt)
theorem Mk.congr (h : Mk w0 w6 pr p6 gp m R C w M) {N : Mx} (he : ∀ i j, i < R → j < C → M i j = N i j) : Mk w0 w6 pr p6 gp m R C w N := ⟨h.w06, h.pr6, h.b6, h.g6, h.prl, h.gl0, h.ne1, h.ne2, h.sel, by rw [← gl_congr he]; exact h.cells⟩
/-- A store into the matrix. -/
theorem Mk.store (h : Mk w0 w6 pr p6 gp m R C w M) {i j x : Nat} (hi : i < R) (hj : j < C) : Mk w0 w6 pr p6 gp m R C (w.setCell ⟨gp, i * C + j, none⟩ (.int .i64 (x : Int))) (upd2 M i j x) :=
  h.next ((Sel.refl _ w).setCell (S := fun k _ => k = gp) rfl _) (by rw [← gl_set M x hi hj]; exact h.cells.store _ _)
theorem Mk.cell (h : Mk w0 w6 pr p6 gp m R C w M) {i j : Nat} (hi : i < R) (hj : j < C) : w.cell? ⟨gp, i * C + j, none⟩ = some (.int .i64 (M i j : Int)) ∧ w.frozen? ⟨gp, i * C + j, none⟩ = false := by
  refine ⟨?_, h.cells.free _⟩
  rw [h.cells.cell, iv_at (ix_lt hi hj), gl_at M hj]
theorem Mk.fin (h : Mk w0 w6 pr p6 gp m R C w M) (hR : R ≤ 40) (hC : C ≤ 40) {w' : World} (ht : Turned pr w w') : MRes w0 (mkM m R C M, 0) (.returned (.tuple #[mtV (m : Int) (R : Int) (C : Int) (.slice (some ⟨gp, 0, none⟩) (R * C) (R * C)), .int .i64 0])) w' := by
  have hle : R * C ≤ 40 * 40 := Nat.mul_le_mul hR hC
  refine ⟨.slice (some ⟨gp, 0, none⟩) (R * C) (R * C), rfl, ?_, ht.below h.low h.prl⟩
  show w'.ownsRow _ _ _ _ (mkM m R C M).l.length ((nl (R * C) (gl C M)).map iv)
  rw [mk_len]
  exact own_of_blk (ht.blk h.cells (Ne.symm h.ne1)) h.gl0 (by rw [List.length_map, nl_len]) (by unfold maxLen; omega)
end
theorem MRes.bad {w w' : World} (hb : Below w.heap.size w w') (x : Int) : MRes w (zeroM, x) (.returned (.tuple #[mtV 0 0 0 (.slice none 0 0), .int .i64 x])) w' := ⟨.slice none 0 0, rfl, World.ownsRow_nil _ _ _ _, hb⟩
/-- The first state: zeros. -/
theorem Mk.start {w0 w1 w5 w6 : World} {pr gp m R C : Nat} (h01 : Below w0.heap.size w0 w1) (hpr : Blk w1 pr 55 (mtC 0 0 0 (.slice none 0 0))) (hprl : w0.heap.size ≤ pr) (h15 : Below w1.heap.size w1 w5) (hg : w1.heap.size ≤ gp) (hc : Blk w5 gp 3 ((nl (R * C) fun _ => 0).map iv))
    (h6 : w6 = w5.alloc (.cells (mtC (m : Int) (R : Int) (C : Int) (.slice (some ⟨gp, 0, none⟩) (R * C) (R * C))).toArray 55)) : Mk w0 w6 pr w5.heap.size gp m R C w6 (fun _ _ => 0) := by
  have hz := h01.size
  have h1 := hpr.lt
  have h2 := hc.lt
  subst h6
  refine ⟨(h01.trans (h15.mono hz)).alloc (by have := h15.size; omega) _, (hpr.kept h15 h1).alloc _, Blk.new _ _ _, by simp; omega, hprl, by omega, by omega, by omega, Sel.refl _ _, hc.alloc _⟩
def MkE (w0 : World) (pr p6 gp m R C : Nat) (w : World) (M : Mx) : Prop := ∃ w6, Mk w0 w6 pr p6 gp m R C w M
/-- A row of the call's own matrix. -/
theorem row_mk {gp R C i : Nat} (m : Nat) (hi : i < R) (h0 : 0 < C) (hR : R ≤ 40) (hC : C ≤ 40) (W : World) :
    Calls Tryz.prog 102 #[mtV (m : Int) (R : Int) (C : Int) (.slice (some ⟨gp, 0, none⟩) (R * C) (R * C)), .int .i64 (i : Int)] W fun e w' => e = .returned (.slice (some ⟨gp, i * C, none⟩) C (R * C - i * C)) ∧ Below W.heap.size W w' := by
  have h := row_any (m : Int) R C (some ⟨gp, 0, none⟩) (R * C) (R * C) i hi hR hC (Nat.le_refl _) (Nat.le_refl _) W
  rw [row_own hi h0] at h
  exact h
theorem wpList_ldM {ops : Array Oper} {rest : List Oper} {o : Oper} {a : Act} {w : World} {Q : Exit → Act → World → Prop} (hgd : o.guard = none) (x : Operand) (ho : o.op = .load 55 x) (p : Nat) (F R C : Int) (s : Value) (hx : a.eval x = .pointer (some ⟨p, 0, none⟩))
    (hp : Blk w p 55 (mtC F R C s)) (h : wpList Tryz.prog ops Q rest (a.put o.dst (mtV F R C s)) w) : wpList Tryz.prog ops Q (o :: rest) a w :=
  wpList_get hgd _ x ho p (mtC F R C s) _ _ hx hp Tryz.underlying55 rfl isz4 h
theorem wpList_stM {ops : Array Oper} {rest : List Oper} {o : Oper} {a : Act} {w : World} {Q : Exit → Act → World → Prop} (hgd : o.guard = none) (x y : Operand) (ho : o.op = .store 55 x y) (p : Nat) (F R C F' R' C' : Int) (s s' : Value) (hs : s.oneCell' = true) (hx : a.eval x = .pointer (some ⟨p, 0, none⟩)) (hy : a.eval y = mtV F R C s)
    (hp : Blk w p 55 (mtC F' R' C' s')) (h : ∀ w', Hid (Turned p w w') → Hid (Blk w' p 55 (mtC F R C s)) → wpList Tryz.prog ops Q rest (a.put o.dst undef) w') : wpList Tryz.prog ops Q (o :: rest) a w :=
  wpList_put hgd _ x y ho p (mtC F R C s) (mtC F' R' C' s') 55 hx hy hp isz4 rfl (mt_one _ _ _ hs) (fun w' h1 h2 => h w' h1 h2)
end
section
open Go.RowKit
set_option linter.unusedVariables false
/-- What Identity answers. -/
def idM (m n : Int) : Mt × Int := if vd m 0 = true ∧ isz n = true then (mkM m.toNat n.toNat n.toNat idm, 0) else (zeroM, 1)
def idK (k : Nat) : Mx := fun i j => if i < k ∧ i = j then 1 else 0
theorem idK_next (k : Nat) : upd2 (idK k) k k 1 = idK (k + 1) := by
  funext i j
  unfold upd2 idK
  by_cases e : i = k ∧ j = k
  · rw [if_pos e, if_pos (by omega)]
  · rw [if_neg e]
    by_cases e2 : i < k ∧ i = j
    · rw [if_pos e2, if_pos (by omega)]
    · rw [if_neg e2, if_neg (by omega)]
theorem idK_all {n i j : Nat} (hi : i < n) : idK n i j = idm i j := by
  unfold idK idm
  by_cases e : i = j
  · rw [if_pos ⟨hi, e⟩, if_pos e]
  · rw [if_neg (fun q => e q.2), if_neg e]
set_option maxHeartbeats 1000000 in
set_option maxRecDepth 100000 in
theorem ident_any (m n : Int) (w : World) (hT : Tabs w) :
    Calls Tryz.prog 77 #[.int .i64 m, .int .i64 n] w (MRes w (idM m n)) := by
  have HV := hideIt (fun W (hW : Below w.heap.size w W) => valid_any m 0 W (hT.keep hW))
  have HZ := hideIt (fun W => isz_any n W)
  have HPR := hideIt (Blk.new w 55 (mtC 0 0 0 (.slice none 0 0)))
  obtain ⟨r, hr⟩ : ∃ r, r = idM m n := ⟨_, rfl⟩
  rw [← hr]
  have HR := hideIt hr
  clear hr hT
  by_cases h1 : vd m 0 = true
  · by_cases h2 : isz n = true
    · rw [h1] at HV
      rw [h2] at HZ
      have HR2 : Hid (r = (mkM m.toNat n.toNat n.toNat idm, 0)) := hideIt (by rw [HR.out]; unfold idM; rw [if_pos ⟨h1, h2⟩])
      obtain ⟨k, x, rfl, hx0, hk, _⟩ := vd_spec h1
      clear hx0
      obtain ⟨q, rfl, hq⟩ := isz_spec h2
      rw [Int.toNat_natCast, Int.toNat_natCast] at HR2
      have HZS := hideIt (fun W => zeros_any k q q (by omega) (by omega) W)
      clear h1 h2 HR
      go_enter Tryz.func77, Tryz.ntmps77
      go_wp2_with (first
        | (go_at_call 84; refine (HV.out _ (below_new w _)).mono ?_; rintro e w2 ⟨rfl, rfl⟩)
        | (go_at_call 100; refine (HZ.out _).mono ?_; rintro e w2 ⟨rfl, rfl⟩)
        | (go_at_call 101; refine (HZS.out _).mono ?_; rintro e w5 ⟨gp, rfl, hg, hc, hb5⟩; have HMK := hideIt (Mk.start (m := k) (below_new w _) HPR.out (Nat.le_refl _) hb5 hg hc rfl); clear hg hc hb5))
      obtain ⟨p6, hp6⟩ : ∃ p6, p6 = w5.heap.size := ⟨_, rfl⟩
      rw [← hp6] at HMK ⊢
      clear hp6 HV HZ HZS HPR
      have hqq : q * q ≤ 32 * 32 := Nat.mul_le_mul hq hq
      go_loopg [22] q (fun gk s22 wr => ∃ i : Nat, i + gk = q ∧ s22 = .int .i64 (i : Int) ∧ Aside (MkE w w.heap.size p6 gp k q q wr (idK i)))
      case atStart => exact ⟨0, by omega, rfl, _, HMK.out.congr (fun i j _ _ => by unfold idK; rw [if_neg (by omega)])⟩
      case round =>
        obtain ⟨i, hi, rfl, HI⟩ := hrel
        by_cases hlt : i < q
        · have hinc := inc_c 3 i (by omega)
          have hiq : (i : Int) < (q : Int) := by omega
          have HROW := hideIt (fun W => row_mk (gp := gp) (R := q) (C := q) (i := i) k hlt (by omega) (by omega) (by omega) W)
          obtain ⟨w6, hmk⟩ := HI.out
          have HM := hideIt hmk
          clear HI hmk HMK
          go_wp2_with (first
            | ((with_reducible refine at_load ?_); refine wpList_ldM rfl (.tmp 6) rfl p6 _ _ _ _ rfl HM.out.box ?_)
            | (go_at_call 102; refine (HROW.out _).mono ?_; rintro e w7 ⟨rfl, hb7⟩; have HM7 := hideIt (HM.out.below hb7); obtain ⟨hcell, hfr⟩ := HM7.out.cell (i := i) (j := i) hlt hlt; clear hb7))
          go_roundg (gk - 1)
          case measure => omega
          case rel => exact ⟨i + 1, by omega, by go_num, w6, by rw [← idK_next]; exact HM7.out.store (x := 1) hlt hlt⟩
        · have hiq : ¬ (i : Int) < (q : Int) := by omega
          obtain rfl : i = q := by omega
          obtain ⟨w6, hmk⟩ := HI.out
          have HM := hideIt (hmk.congr (fun r j hr hj => idK_all (j := j) hr))
          clear HI hmk HMK
          go_wp2_with (first
            | ((with_reducible refine at_load ?_); refine wpList_ldM rfl (.tmp 6) rfl p6 _ _ _ _ rfl HM.out.box ?_)
            | ((with_reducible refine at_store ?_); refine wpList_stM rfl (.tmp 4) (.tmp 31) rfl w.heap.size _ _ _ _ _ _ _ _ rfl rfl rfl HM.out.res ?_; intro w8 HT8 HB8))
          refine bodyPost_ret (results_two rfl _ _ w.heap.size _ _ _ rfl HB8.out Tryz.underlying55 rfl isz4) rfl ?_
          rw [HR2.out]
          exact HM.out.fin (by omega) (by omega) HT8.out
    · have HR2 : Hid (r = (zeroM, 1)) := hideIt (by rw [HR.out]; unfold idM; rw [if_neg (fun h => h2 h.2)])
      rw [h1] at HV
      rw [Bool.eq_false_iff.2 h2] at HZ
      clear h1 h2 HR
      go_enter Tryz.func77, Tryz.ntmps77
      go_wp2_with (first
        | (go_at_call 84; refine (HV.out _ (below_new w _)).mono ?_; rintro e w2 ⟨rfl, rfl⟩)
        | (go_at_call 100; refine (HZ.out _).mono ?_; rintro e w2 ⟨rfl, rfl⟩)
        | ((with_reducible refine at_store ?_); refine wpList_stM rfl (.tmp 4) (.tmp 16) rfl w.heap.size 0 0 0 0 0 0 (.slice none 0 0) (.slice none 0 0) rfl rfl rfl HPR.out ?_; intro w8 HT8 HB8))
      refine bodyPost_ret (results_two rfl _ _ w.heap.size _ _ _ rfl HB8.out Tryz.underlying55 rfl isz4) rfl ?_
      rw [HR2.out]
      exact MRes.bad (HT8.out.below (below_new w _) (Nat.le_refl _)) 1
  · have HR2 : Hid (r = (zeroM, 1)) := hideIt (by rw [HR.out]; unfold idM; rw [if_neg (fun h => h1 h.1)])
    rw [Bool.eq_false_iff.2 h1] at HV
    clear h1 HR
    go_enter Tryz.func77, Tryz.ntmps77
    go_wp2_with (first
        | (go_at_call 84; refine (HV.out _ (below_new w _)).mono ?_; rintro e w2 ⟨rfl, rfl⟩)
        | ((with_reducible refine at_store ?_); refine wpList_stM rfl (.tmp 4) (.tmp 16) rfl w.heap.size 0 0 0 0 0 0 (.slice none 0 0) (.slice none 0 0) rfl rfl rfl HPR.out ?_; intro w8 HT8 HB8))
    refine bodyPost_ret (results_two rfl _ _ w.heap.size _ _ _ rfl HB8.out Tryz.underlying55 rfl isz4) rfl ?_
    rw [HR2.out]
    exact MRes.bad (HT8.out.below (below_new w _) (Nat.le_refl _)) 1
end
end

section
set_option linter.unusedVariables false
set_option linter.unusedSimpArgs false
/-- the combination of p rows -/
def cb (m p : Nat) (V : Mx) (c : Nat → Nat) : Nat → Nat := fun j => sm p fun k => mul m (c k) (V k j)
def Dep (m n p : Nat) (V : Mx) (r : Nat → Nat) : Prop := ∃ c, Vv m c ∧ ∀ j, j < n → r j = cb m p V c j
def Ind (m n p : Nat) (V : Mx) : Prop := ∀ c, Vv m c → (∀ j, j < n → cb m p V c j = 0) → ∀ k, k < p → c k = 0
theorem cb_xor (m p : Nat) (V : Mx) (c d : Nat → Nat) (j : Nat) : cb m p V (fun k => c k ^^^ d k) j = cb m p V c j ^^^ cb m p V d j := by
  unfold cb; rw [← sm_xor]; exact sm_congr fun k _ => mulL m _ _ _
theorem vv_xor {m : Nat} {c d : Nat → Nat} (hc : Vv m c) (hd : Vv m d) : Vv m fun k => c k ^^^ d k := fun k => Nat.xor_lt_two_pow (hc k) (hd k)
theorem cb_zero (m p : Nat) (V : Mx) (c : Nat → Nat) (h : ∀ k, k < p → c k = 0) (j : Nat) : cb m p V c j = 0 := sm_zero fun k hk => by rw [h k hk, mul_zeroL]
theorem cb_congr {m p : Nat} {V U : Mx} {c d : Nat → Nat} {j : Nat} (h : ∀ k, k < p → c k = d k) (hv : ∀ k, k < p → V k j = U k j) : cb m p V c j = cb m p U d j := sm_congr fun k hk => by rw [h k hk, hv k hk]
theorem Ind.uniq {m n p : Nat} {V : Mx} (h : Ind m n p V) {c d : Nat → Nat} (hc : Vv m c) (hd : Vv m d) (he : ∀ j, j < n → cb m p V c j = cb m p V d j) : ∀ k, k < p → c k = d k := fun k hk => by
  have := h (fun k => c k ^^^ d k) (vv_xor hc hd) (fun j hj => by rw [cb_xor, he j hj, Nat.xor_self]) k hk
  exact xe this
theorem Ind.congr {m n p : Nat} {V U : Mx} (h : Ind m n p V) (hv : ∀ k, k < p → ∀ j, j < n → V k j = U k j) : Ind m n p U := fun c hc h0 k hk =>
  h c hc (fun j hj => by rw [cb_congr (fun _ _ => rfl) (fun k hk => hv k hk j hj)]; exact h0 j hj) k hk
theorem Dep.congr {m n p : Nat} {V U : Mx} {r s : Nat → Nat} (h : Dep m n p V r) (hv : ∀ k, k < p → ∀ j, j < n → V k j = U k j) (hr : ∀ j, j < n → r j = s j) : Dep m n p U s := by
  obtain ⟨c, hc, h1⟩ := h
  exact ⟨c, hc, fun j hj => by rw [← hr j hj, h1 j hj]; exact cb_congr (fun _ _ => rfl) fun k hk => hv k hk j hj⟩
section
variable {m : Nat} (hm : Fm m)
include hm
theorem cb_mul {p : Nat} {V : Mx} {c : Nat → Nat} (hc : Vv m c) (hV : Vm m V) {a : Nat} (ha : a < 2 ^ m) (j : Nat) : cb m p V (fun k => mul m a (c k)) j = mul m a (cb m p V c j) := by
  unfold cb; rw [sm_mulR]; exact sm_congr fun k _ => mul_assoc hm ha (hc k) (hV k j)
theorem cb_unit {p : Nat} {V : Mx} (hV : Vm m V) {t : Nat} (ht : t < p) (j : Nat) : cb m p V (fun k => if k = t then 1 else 0) j = V t j := by
  unfold cb; rw [sm_one ht]
  · simp [mul_oneL hm (hV t j)]
  · intro i _ hne; simp [hne, mul_zeroL]
theorem unit_v (t : Nat) : Vv m fun k => if k = t then 1 else 0 := fun k => by
  show (if k = t then 1 else 0) < 2 ^ m
  split; exact fm_one hm; exact Nat.two_pow_pos m
theorem Dep.mem {n p : Nat} {V : Mx} (hV : Vm m V) {t : Nat} (ht : t < p) : Dep m n p V (V t) := ⟨fun k => if k = t then 1 else 0, unit_v hm t, fun j _ => (cb_unit hm hV ht j).symm⟩
theorem Dep.trans {n p q : Nat} {V U : Mx} (hU : Vm m U) {r : Nat → Nat} (h : Dep m n p V r) (hv : ∀ k, k < p → Dep m n q U (V k)) : Dep m n q U r := by
  obtain ⟨c, hc, h1⟩ := h
  have hx : ∃ X : Mx, Vm m X ∧ ∀ k, k < p → ∀ j, j < n → V k j = cb m q U (X k) j := by
    refine ⟨fun k => if h : k < p then (hv k h).choose else fun _ => 0, fun k i => ?_, fun k hk j hj => ?_⟩
    · by_cases h : k < p
      · simp only [h, dif_pos]; exact (hv k h).choose_spec.1 i
      · simp only [h, dif_neg, not_false_iff]; exact Nat.two_pow_pos m
    · simp only [hk, dif_pos]; exact (hv k hk).choose_spec.2 j hj
  obtain ⟨X, hX, hXe⟩ := hx
  refine ⟨fun l => sm p fun k => mul m (c k) (X k l), fun l => sm_lt fun k _ => mul_lt hm _ (hc k), fun j hj => ?_⟩
  rw [h1 j hj]
  unfold cb
  have e : ∀ k, k < p → mul m (c k) (V k j) = sm q fun l => mul m (mul m (c k) (X k l)) (U l j) := fun k hk => by
    rw [hXe k hk j hj]; unfold cb; rw [sm_mulR]
    exact sm_congr fun l _ => (mul_assoc hm (hc k) (hX k l) (hU l j)).symm
  rw [sm_congr e, sm_swap]
  exact sm_congr fun l _ => by rw [sm_mulL]
omit hm in
theorem Dep.more {n p : Nat} {V : Mx} {r : Nat → Nat} (h : Dep m n p V r) : Dep m n (p + 1) V r := by
  obtain ⟨c, hc, h1⟩ := h
  refine ⟨fun k => if k < p then c k else 0, fun k => ?_, fun j hj => ?_⟩
  · show (if k < p then c k else 0) < 2 ^ m
    split; exact hc k; exact Nat.two_pow_pos m
  · rw [h1 j hj]
    show _ = sm p _ ^^^ _
    simp only [Nat.lt_irrefl, if_false, mul_zeroL, Nat.xor_zero]
    exact sm_congr fun k hk => by simp [hk]
omit hm in
theorem Dep.add {n p : Nat} {V : Mx} {r s : Nat → Nat} (h : Dep m n p V r) (k : Dep m n p V s) : Dep m n p V fun j => r j ^^^ s j := by
  obtain ⟨c, hc, h1⟩ := h
  obtain ⟨d, hd, h2⟩ := k
  exact ⟨_, vv_xor hc hd, fun j hj => by show r j ^^^ s j = _; rw [cb_xor, h1 j hj, h2 j hj]⟩
theorem cb_ker {n p : Nat} {V : Mx} (hV : Vm m V) {x : Nat → Nat} (hx : Vv m x) : Ker m n p (tr V) x ↔ ∀ j, j < n → cb m p V x j = 0 := by
  unfold Ker
  have e : ∀ i, dot m p (tr V i) x = cb m p V x i := fun i => sm_congr fun k _ => mul_comm hm (hV k i) (hx k)
  simp only [e]
theorem Ind.le {n p : Nat} {V : Mx} (hV : Vm m V) (h : Ind m n p V) : p ≤ n := by
  refine Nat.le_of_not_lt fun hlt => ?_
  obtain ⟨x, hx, ⟨j, hj, h0⟩, hk⟩ := ker_ex hm hlt (A := tr V) (fun i j => hV j i)
  exact h0 (h x hx ((cb_ker hm hV hx).1 hk) j hj)
/-- one more row that does not depend on the others -/
theorem Ind.snoc {n p : Nat} {V : Mx} (hV : Vm m V) (h : Ind m n p V) (hd : ¬ Dep m n p V (V p)) : Ind m n (p + 1) V := fun c hc h0 => by
  by_cases hp : c p = 0
  · intro k hk
    by_cases hkp : k = p
    · rw [hkp]; exact hp
    · refine h c hc (fun j hj => ?_) k (by omega)
      have := h0 j hj
      unfold cb at this
      rw [show sm (p + 1) (fun k => mul m (c k) (V k j)) = sm p (fun k => mul m (c k) (V k j)) ^^^ mul m (c p) (V p j) from rfl, hp, mul_zeroL, Nat.xor_zero] at this
      exact this
  · refine absurd ⟨fun k => mul m (inv m (c p)) (c k), fun k => mul_lt hm _ (inv_lt hm _), fun j hj => ?_⟩ hd
    have := h0 j hj
    unfold cb at this
    rw [show sm (p + 1) (fun k => mul m (c k) (V k j)) = cb m p V c j ^^^ mul m (c p) (V p j) from rfl] at this
    rw [cb_mul hm hc hV (inv_lt hm _), xe this, ← mul_assoc hm (inv_lt hm _) (hc p) (hV p j), mul_comm hm (inv_lt hm _) (hc p), mul_inv hm (hc p) hp, mul_oneL hm (hV p j)]
omit hm in
theorem Ind.prefix_ {n p q : Nat} {V : Mx} (h : Ind m n p V) (hq : q ≤ p) : Ind m n q V := fun c hc h0 k hk => by
  have hs : ∀ j d, sm (q + d) (fun k => mul m (if k < q then c k else 0) (V k j)) = sm q fun k => mul m (c k) (V k j) := fun j d => by
    induction d with
    | zero => exact sm_congr fun k hk => by simp [show k < q from hk]
    | succ d ih =>
      show sm (q + d) _ ^^^ mul m (if q + d < q then c (q + d) else 0) (V (q + d) j) = _
      rw [ih, if_neg (by omega), mul_zeroL, Nat.xor_zero]
  have := h (fun k => if k < q then c k else 0) (fun k => by show (if k < q then c k else 0) < 2 ^ m; split; exact hc k; exact Nat.two_pow_pos m) (fun j hj => by
    have := hs j (p - q)
    rw [show q + (p - q) = p by omega] at this
    exact this.trans (h0 j hj)) k (by omega)
  simpa [hk] using this
theorem Ind.full {n : Nat} {V : Mx} (hV : Vm m V) (h : Ind m n n V) {r : Nat → Nat} (hr : Vv m r) : Dep m n n V r := Classical.byContradiction fun hd => by
  have h2 : Ind m n (n + 1) fun k => if k < n then V k else r := by
    refine Ind.snoc hm (fun k j => ?_) (h.congr fun k hk j _ => by simp [hk]) fun hd2 => hd (hd2.congr (fun k hk j _ => by simp [hk]) fun j _ => by simp)
    by_cases hk : k < n
    · simp only [hk, if_true]; exact hV k j
    · simp only [hk, if_false]; exact hr j
  have := h2.le hm (fun k j => by
    by_cases hk : k < n
    · simp only [hk, if_true]; exact hV k j
    · simp only [hk, if_false]; exact hr j)
  omega
/-- p independent rows that depend on q rows: p is at most q -/
theorem Ind.exchange {n p q : Nat} {V U : Mx} (hV : Vm m V) (hU : Vm m U) (h : Ind m n p V) (hd : ∀ k, k < p → Dep m n q U (V k)) : p ≤ q := by
  refine Nat.le_of_not_lt fun hlt => ?_
  have hx : ∃ X : Mx, Vm m X ∧ ∀ k, k < p → ∀ j, j < n → V k j = cb m q U (X k) j := by
    refine ⟨fun k => if h : k < p then (hd k h).choose else fun _ => 0, fun k i => ?_, fun k hk j hj => ?_⟩
    · by_cases h : k < p
      · simp only [h, dif_pos]; exact (hd k h).choose_spec.1 i
      · simp only [h, dif_neg, not_false_iff]; exact Nat.two_pow_pos m
    · simp only [hk, dif_pos]; exact (hd k hk).choose_spec.2 j hj
  obtain ⟨X, hX, hXe⟩ := hx
  obtain ⟨x, hx, ⟨t, ht, h0⟩, hk⟩ := ker_ex hm hlt (A := tr X) (fun i j => hX j i)
  have hk2 : ∀ l, l < q → (sm p fun k => mul m (x k) (X k l)) = 0 := fun l hl => (cb_ker (n := q) hm hX hx).1 hk l hl
  refine h0 (h x hx (fun j hj => ?_) t ht)
  unfold cb
  have e : ∀ k, k < p → mul m (x k) (V k j) = sm q fun l => mul m (mul m (x k) (X k l)) (U l j) := fun k hk => by
    rw [hXe k hk j hj]; unfold cb; rw [sm_mulR]
    exact sm_congr fun l _ => (mul_assoc hm (hx k) (hX k l) (hU l j)).symm
  rw [sm_congr e, sm_swap]
  refine sm_zero fun l hl => ?_
  rw [← sm_mulL, hk2 l hl, mul_zeroL]
end
/-- the rows of the units of a list -/
abbrev sel (G : Mx) (B : List Nat) : Mx := fun i => G (B.getD i 0)
open Classical in
/-- the basis of the present units among the first k -/
noncomputable def bas (m n : Nat) (G : Mx) (hv : Nat → Bool) : Nat → List Nat
  | 0 => []
  | k + 1 => if hv k = true ∧ ¬ Dep m n (bas m n G hv k).length (sel G (bas m n G hv k)) (G k) then bas m n G hv k ++ [k] else bas m n G hv k
section
variable {m n : Nat} {G : Mx} {hv : Nat → Bool}
theorem bas_abs {k : Nat} (h : ¬ hv k = true) : bas m n G hv (k + 1) = bas m n G hv k := by
  rw [bas]
  exact if_neg fun q => h q.1
theorem bas_dep {k : Nat} (h : Dep m n (bas m n G hv k).length (sel G (bas m n G hv k)) (G k)) : bas m n G hv (k + 1) = bas m n G hv k := by
  rw [bas]
  exact if_neg fun q => q.2 h
theorem bas_new {k : Nat} (h : hv k = true) (hd : ¬ Dep m n (bas m n G hv k).length (sel G (bas m n G hv k)) (G k)) : bas m n G hv (k + 1) = bas m n G hv k ++ [k] := by
  rw [bas]
  exact if_pos ⟨h, hd⟩
theorem bas_step (k : Nat) : bas m n G hv (k + 1) = bas m n G hv k ∨ (hv k = true ∧ ¬ Dep m n (bas m n G hv k).length (sel G (bas m n G hv k)) (G k) ∧ bas m n G hv (k + 1) = bas m n G hv k ++ [k]) := by
  by_cases h : hv k = true
  · by_cases hd : Dep m n (bas m n G hv k).length (sel G (bas m n G hv k)) (G k)
    · exact .inl (bas_dep hd)
    · exact .inr ⟨h, hd, bas_new h hd⟩
  · exact .inl (bas_abs h)
theorem bas_mem : ∀ (k : Nat) (x : Nat), x ∈ bas m n G hv k → x < k ∧ hv x = true
  | 0, x, h => by cases h
  | k + 1, x, h => by
    rcases bas_step (m := m) (n := n) (G := G) (hv := hv) k with e | ⟨h1, _, e⟩
    · rw [e] at h; exact ⟨Nat.lt_succ_of_lt (bas_mem k x h).1, (bas_mem k x h).2⟩
    · rw [e] at h
      rcases List.mem_append.1 h with h | h
      · exact ⟨Nat.lt_succ_of_lt (bas_mem k x h).1, (bas_mem k x h).2⟩
      · rw [List.mem_singleton.1 h]; exact ⟨Nat.lt_succ_self k, h1⟩
theorem bas_at {k i : Nat} (h : i < (bas m n G hv k).length) : (bas m n G hv k).getD i 0 < k ∧ hv ((bas m n G hv k).getD i 0) = true := by
  have : (bas m n G hv k).getD i 0 = (bas m n G hv k)[i] := by simp [List.getD_eq_getElem?_getD, h]
  rw [this]; exact bas_mem k _ (List.getElem_mem h)
theorem bas_count : ∀ k : Nat, (bas m n G hv k).length ≤ ((List.range k).filter hv).length
  | 0 => Nat.le_refl _
  | k + 1 => by
    have ih := bas_count k
    rw [List.range_succ, List.filter_append, List.length_append]
    rcases bas_step (m := m) (n := n) (G := G) (hv := hv) k with e | ⟨h1, _, e⟩
    · rw [e]; omega
    · rw [e]; simp [h1]; exact ih
theorem sel_snoc (B : List Nat) (k : Nat) : ∀ i, i < B.length → ∀ j, sel G B i j = sel G (B ++ [k]) i j := fun i hi j => by
  show G (B.getD i 0) j = G ((B ++ [k]).getD i 0) j
  rw [getD_snoc_lt hi]
variable (hm : Fm m) (hG : Vm m G)
include hm hG
theorem bas_ind : ∀ k : Nat, Ind m n (bas m n G hv k).length (sel G (bas m n G hv k))
  | 0 => fun c _ _ k hk => absurd hk (Nat.not_lt_zero k)
  | k + 1 => by
    rcases bas_step (m := m) (n := n) (G := G) (hv := hv) k with e | ⟨h1, hd, e⟩
    · rw [e]; exact bas_ind k
    · rw [e, List.length_append]
      refine Ind.snoc hm (fun i j => hG _ j) ((bas_ind k).congr fun i hi j _ => sel_snoc _ _ i hi j) fun h => hd (h.congr (fun i hi j _ => (sel_snoc _ _ i hi j).symm) fun j _ => ?_)
      show G ((bas m n G hv k ++ [k]).getD (bas m n G hv k).length 0) j = _
      rw [getD_snoc_eq rfl]
theorem bas_le (k : Nat) : (bas m n G hv k).length ≤ n := (bas_ind hm hG k).le hm fun i j => hG _ j
omit hm hG in
theorem bas_mono {k : Nat} {r : Nat → Nat} (h : Dep m n (bas m n G hv k).length (sel G (bas m n G hv k)) r) : Dep m n (bas m n G hv (k + 1)).length (sel G (bas m n G hv (k + 1))) r := by
  rcases bas_step (m := m) (n := n) (G := G) (hv := hv) k with e | ⟨h1, hd, e⟩
  · rw [e]; exact h
  · rw [e, List.length_append]
    exact (h.congr (fun i hi j _ => sel_snoc _ _ i hi j) fun _ _ => rfl).more
theorem bas_span : ∀ (k u : Nat), u < k → hv u = true → Dep m n (bas m n G hv k).length (sel G (bas m n G hv k)) (G u)
  | 0, u, h, _ => absurd h (Nat.not_lt_zero u)
  | k + 1, u, h, hu => by
    by_cases hk : u = k
    · subst hk
      by_cases hd : Dep m n (bas m n G hv u).length (sel G (bas m n G hv u)) (G u)
      · exact bas_mono hd
      · rw [bas_new hu hd, List.length_append]
        have := Dep.mem (n := n) (p := (bas m n G hv u).length + 1) hm (V := sel G (bas m n G hv u ++ [u])) (fun i j => hG _ j) (t := (bas m n G hv u).length) (Nat.lt_succ_self _)
        refine this.congr (fun _ _ _ _ => rfl) fun j _ => ?_
        show G ((bas m n G hv u ++ [u]).getD (bas m n G hv u).length 0) j = _
        rw [getD_snoc_eq rfl]
    · exact bas_mono (bas_span k u (by omega) hu)
theorem bas_full {k : Nat} (h : (bas m n G hv k).length = n) {r : Nat → Nat} (hr : Vv m r) : Dep m n (bas m n G hv k).length (sel G (bas m n G hv k)) r := by
  have hi := bas_ind (n := n) (hv := hv) hm hG k
  rw [h] at hi ⊢
  exact hi.full hm (fun i j => hG _ j) hr
theorem bas_stop {k : Nat} (h : (bas m n G hv k).length = n) : ∀ d, bas m n G hv (k + d) = bas m n G hv k
  | 0 => rfl
  | d + 1 => by
    have ih := bas_stop h d
    rw [← Nat.add_assoc, bas_dep, ih]
    rw [ih]
    exact bas_full hm hG h (fun j => hG _ j)
end
end

section
set_option linter.unusedVariables false
set_option linter.unusedSimpArgs false
/-- a row, reduced by the first i reduced rows -/
def rd (m : Nat) (Q : Mx) (pv : List Nat) (r : Nat → Nat) : Nat → Nat → Nat
  | 0 => r
  | i + 1 => fun j => rd m Q pv r i j ^^^ mul m (rd m Q pv r i (pv.getD i 0)) (Q i j)
/-- a row of the generator with room for coefficients -/
def pad (n : Nat) (r : Nat → Nat) : Nat → Nat := fun j => if j < n then r j else 0
structure Rdc (m n : Nat) (G : Mx) (B pv : List Nat) (Q : Mx) : Prop where
  len : pv.length = B.length
  pl : ∀ i, i < B.length → pv.getD i 0 < n
  one : ∀ i, i < B.length → Q i (pv.getD i 0) = 1
  low : ∀ i k, i < k → k < B.length → Q k (pv.getD i 0) = 0
  v : Vm m Q
  com : ∀ i, i < B.length → ∀ j, j < n → Q i j = cb m B.length (sel G B) (fun k => Q i (n + k)) j
  hi : ∀ i, i < B.length → ∀ k, B.length ≤ k → k < n → Q i (n + k) = 0
  spn : ∀ k, k < B.length → Dep m n B.length Q (sel G B k)
theorem rdc_nil (m n : Nat) (G Q : Mx) (hQ : Vm m Q) : Rdc m n G [] [] Q :=
  ⟨rfl, fun i h => absurd h (Nat.not_lt_zero i), fun i h => absurd h (Nat.not_lt_zero i), fun i k _ h => absurd h (Nat.not_lt_zero k), hQ, fun i h => absurd h (Nat.not_lt_zero i), fun i h => absurd h (Nat.not_lt_zero i), fun i h => absurd h (Nat.not_lt_zero i)⟩
section
variable {m n : Nat} {G : Mx} {B pv : List Nat} {Q : Mx} (hm : Fm m)
include hm
theorem rd_v {r : Nat → Nat} (hr : Vv m r) : ∀ i, Vv m (rd m Q pv r i)
  | 0 => hr
  | i + 1 => fun j => Nat.xor_lt_two_pow (rd_v hr i j) (mul_lt hm _ (rd_v hr i _))
omit hm in
theorem pad_v {r : Nat → Nat} (hr : Vv m r) : Vv m (pad n r) := fun j => by
  unfold pad; split; exact hr j; exact Nat.two_pow_pos m
theorem rd_zero (h : Rdc m n G B pv Q) {r : Nat → Nat} (hr : Vv m r) : ∀ i, i ≤ B.length → ∀ l, l < i → rd m Q pv r i (pv.getD l 0) = 0
  | 0, _, l, hl => absurd hl (Nat.not_lt_zero l)
  | i + 1, hi, l, hl => by
    show rd m Q pv r i _ ^^^ mul m _ _ = 0
    by_cases e : l = i
    · rw [e, h.one i (by omega), mul_oneR hm, Nat.xor_self]
    · rw [rd_zero h hr i (by omega) l (by omega), h.low l i (by omega) (by omega), mul_zeroR, Nat.xor_self]
theorem rd_com (h : Rdc m n G B pv Q) (hG : Vm m G) {u : Nat} : ∀ i, i ≤ B.length → ∀ j, j < n → rd m Q pv (pad n (G u)) i j = G u j ^^^ cb m B.length (sel G B) (fun k => rd m Q pv (pad n (G u)) i (n + k)) j
  | 0, _, j, hj => by
    rw [cb_zero]
    · show pad n (G u) j = _; simp [pad, hj]
    · intro k _; show (if n + k < n then _ else 0) = 0; rw [if_neg (by omega)]
  | i + 1, hi, j, hj => by
    have hv := rd_v (Q := Q) (pv := pv) hm (pad_v (n := n) (hG u)) i
    show rd m Q pv _ i j ^^^ mul m _ (Q i j) = _
    rw [rd_com h hG i (by omega) j hj, h.com i (by omega) j hj, ← cb_mul hm (fun k => h.v i (n + k)) (fun i j => hG _ j) (hv _), Nat.xor_assoc, ← cb_xor]
    rfl
omit hm in
theorem rd_hi (h : Rdc m n G B pv Q) (r : Nat → Nat) : ∀ i, i ≤ B.length → ∀ k, B.length ≤ k → k < n → rd m Q pv (pad n r) i (n + k) = 0
  | 0, _, k, _, _ => by show (if n + k < n then _ else 0) = 0; rw [if_neg (by omega)]
  | i + 1, hi, k, h1, h2 => by
    show rd m Q pv _ i (n + k) ^^^ mul m _ (Q i (n + k)) = 0
    rw [rd_hi h r i (by omega) k h1 h2, h.hi i (by omega) k h1 h2, mul_zeroR, Nat.xor_self]
omit hm in
theorem rd_eq (r : Nat → Nat) (j : Nat) : ∀ i, rd m Q pv r i j = r j ^^^ cb m i Q (fun l => rd m Q pv r l (pv.getD l 0)) j
  | 0 => (Nat.xor_zero _).symm
  | i + 1 => by
    show rd m Q pv r i j ^^^ mul m _ (Q i j) = _
    rw [rd_eq r j i, Nat.xor_assoc]; rfl
theorem rd_diff {r : Nat → Nat} (hr : Vv m r) (n p : Nat) : Dep m n p Q fun j => r j ^^^ rd m Q pv r p j :=
  ⟨fun l => rd m Q pv r l (pv.getD l 0), fun l => rd_v hm hr l _, fun j _ => by
    show r j ^^^ rd m Q pv r p j = _
    rw [rd_eq r j p, ← Nat.xor_assoc, Nat.xor_self, Nat.zero_xor]⟩
/-- what depends on the reduced rows and is 0 in all their columns is 0 -/
theorem piv_zero (h : Rdc m n G B pv Q) {x : Nat → Nat} (hd : Dep m n B.length Q x) (hz : ∀ l, l < B.length → x (pv.getD l 0) = 0) : ∀ j, j < n → x j = 0 := by
  obtain ⟨e, he, h1⟩ := hd
  have h0 : ∀ i, i < B.length → e i = 0 := by
    intro i
    induction i using Nat.strongRecOn with
    | _ i ih =>
      intro hi
      have := h1 _ (h.pl i hi)
      rw [hz i hi] at this
      unfold cb at this
      rw [sm_one hi] at this
      · rw [h.one i hi, mul_oneR hm] at this; exact this.symm
      · intro k hk hne
        by_cases hlt : k < i
        · rw [ih k hlt (by omega), mul_zeroL]
        · rw [h.low i k (by omega) hk, mul_zeroR]
  intro j hj
  rw [h1 j hj]; exact cb_zero _ _ _ _ h0 j
/-- a row is reduced to 0 if and only if it depends on the rows of the basis -/
theorem rd_dep (h : Rdc m n G B pv Q) (hG : Vm m G) {u : Nat} (hd : Dep m n B.length (sel G B) (G u)) : ∀ j, j < n → rd m Q pv (pad n (G u)) B.length j = 0 := by
  have hp : Vv m (pad n (G u)) := pad_v (hG u)
  have hdr := Dep.trans hm h.v hd h.spn
  have h2 := rd_diff (Q := Q) (pv := pv) hm hp n B.length
  refine piv_zero hm h ((hdr.add h2).congr (fun _ _ _ _ => rfl) fun j hj => ?_) fun l hl => rd_zero hm h hp B.length (Nat.le_refl _) l hl
  show G u j ^^^ (pad n (G u) j ^^^ _) = _
  rw [show pad n (G u) j = G u j by simp [pad, hj], ← Nat.xor_assoc, Nat.xor_self, Nat.zero_xor]
theorem rd_cof (h : Rdc m n G B pv Q) (hG : Vm m G) {u : Nat} (hz : ∀ j, j < n → rd m Q pv (pad n (G u)) B.length j = 0) : ∀ j, j < n → G u j = cb m B.length (sel G B) (fun k => rd m Q pv (pad n (G u)) B.length (n + k)) j := fun j hj => by
  have := rd_com hm h hG (u := u) B.length (Nat.le_refl _) j hj
  rw [hz j hj] at this
  exact xe this.symm
theorem rd_is (h : Rdc m n G B pv Q) (hG : Vm m G) {u : Nat} : (∀ j, j < n → rd m Q pv (pad n (G u)) B.length j = 0) ↔ Dep m n B.length (sel G B) (G u) :=
  ⟨fun hz => ⟨_, fun k => rd_v hm (pad_v (hG u)) _ _, rd_cof hm h hG hz⟩, rd_dep hm h hG⟩
/-- the row that a unit adds -/
def newR (m n : Nat) (x : Nat → Nat) (p c : Nat) : Nat → Nat := fun j => mul m (inv m (x c)) (if j = n + p then 1 else x j)
def addQ (Q : Mx) (p : Nat) (f : Nat → Nat) : Mx := fun i => if i = p then f else Q i
theorem newR_v (n : Nat) (x : Nat → Nat) (p c : Nat) : Vv m (newR m n x p c) := fun j => mul_lt hm _ (inv_lt hm _)
theorem rdc_add (h : Rdc m n G B pv Q) (hG : Vm m G) {u c : Nat} (hp : B.length < n) (hc : c < n) (h0 : rd m Q pv (pad n (G u)) B.length c ≠ 0) :
    Rdc m n G (B ++ [u]) (pv ++ [c]) (addQ Q B.length (newR m n (rd m Q pv (pad n (G u)) B.length) B.length c)) := by
  have hpd : Vv m (pad n (G u)) := pad_v (hG u)
  generalize hx : rd m Q pv (pad n (G u)) B.length = x at *
  have hxv : Vv m x := hx ▸ rd_v hm hpd _
  have hl : (B ++ [u]).length = B.length + 1 := by simp
  have hxz : ∀ l, l < B.length → x (pv.getD l 0) = 0 := fun l hl => by rw [← hx]; exact rd_zero hm h hpd B.length (Nat.le_refl _) l hl
  have hlt : ∀ i, i < B.length → (pv ++ [c]).getD i 0 = pv.getD i 0 := fun i hi => getD_snoc_lt (by rw [h.len]; exact hi)
  have heq : (pv ++ [c]).getD B.length 0 = c := getD_snoc_eq h.len.symm
  have hQo : ∀ i, i < B.length → addQ Q B.length (newR m n x B.length c) i = Q i := fun i hi => by unfold addQ; rw [if_neg (by omega)]
  have hQn : addQ Q B.length (newR m n x B.length c) B.length = newR m n x B.length c := by unfold addQ; rw [if_pos rfl]
  have hnl : ∀ j, j < n → newR m n x B.length c j = mul m (inv m (x c)) (x j) := fun j hj => by unfold newR; rw [if_neg (by omega)]
  have hQv : Vm m (addQ Q B.length (newR m n x B.length c)) := fun i j => by
    unfold addQ
    split
    · exact newR_v hm n x _ _ j
    · exact h.v i j
  have hsp : ∀ k, k < B.length → Dep m n (B.length + 1) (addQ Q B.length (newR m n x B.length c)) (sel G B k) := fun k hk =>
    ((h.spn k hk).congr (fun i hi j _ => by rw [hQo i hi]) fun _ _ => rfl).more
  refine ⟨by simp [h.len], fun i hi => ?_, fun i hi => ?_, fun i k hik hk => ?_, hQv, fun i hi j hj => ?_, fun i hi k hk1 hk2 => ?_, fun k hk => ?_⟩ <;> rw [hl] at *
  · by_cases e : i = B.length
    · rw [e, heq]; exact hc
    · rw [hlt i (by omega)]; exact h.pl i (by omega)
  · by_cases e : i = B.length
    · rw [e, heq, hQn, hnl c hc, mul_comm hm (inv_lt hm _) (hxv c), mul_inv hm (hxv c) h0]
    · rw [hlt i (by omega), hQo i (by omega)]; exact h.one i (by omega)
  · by_cases e : k = B.length
    · rw [e, hQn, hlt i (by omega), hnl _ (h.pl i (by omega)), hxz i (by omega), mul_zeroR]
    · rw [hQo k (by omega), hlt i (by omega)]; exact h.low i k hik (by omega)
  · by_cases e : i = B.length
    · subst e
      rw [hQn, hnl j hj]
      show _ = (sm B.length fun k => mul m (newR m n x B.length c (n + k)) (sel G (B ++ [u]) k j)) ^^^ mul m (newR m n x B.length c (n + B.length)) (sel G (B ++ [u]) B.length j)
      have e1 : x j = G u j ^^^ cb m B.length (sel G B) (fun k => x (n + k)) j := by
        rw [← hx]; exact rd_com hm h hG B.length (Nat.le_refl _) j hj
      have e2 : sel G (B ++ [u]) B.length j = G u j := by show G ((B ++ [u]).getD B.length 0) j = _; rw [getD_snoc_eq rfl]
      have e3 : newR m n x B.length c (n + B.length) = inv m (x c) := by unfold newR; rw [if_pos rfl, mul_oneR hm]
      rw [e2, e3, e1, mulR, Nat.xor_comm, ← cb_mul hm (fun k => hxv _) (fun i j => hG _ j) (inv_lt hm _)]
      congr 1
      refine sm_congr fun k hk => ?_
      rw [show newR m n x B.length c (n + k) = mul m (inv m (x c)) (x (n + k)) by unfold newR; rw [if_neg (by omega)], ← sel_snoc (G := G) B u k hk]
    · rw [hQo i (by omega), h.com i (by omega) j hj]
      show _ = (sm B.length fun k => mul m (Q i (n + k)) (sel G (B ++ [u]) k j)) ^^^ mul m (Q i (n + B.length)) (sel G (B ++ [u]) B.length j)
      rw [h.hi i (by omega) B.length (Nat.le_refl _) hp, mul_zeroL, Nat.xor_zero]
      exact sm_congr fun k hk => by rw [sel_snoc B u k hk]
  · by_cases e : i = B.length
    · rw [e, hQn]
      unfold newR
      rw [if_neg (by omega), ← hx, rd_hi h (G u) B.length (Nat.le_refl _) k (by omega) hk2, mul_zeroR]
    · rw [hQo i (by omega)]; exact h.hi i (by omega) k (by omega) hk2
  · by_cases e : k = B.length
    · subst e
      have e2 : sel G (B ++ [u]) B.length = G u := by show G ((B ++ [u]).getD B.length 0) = _; rw [getD_snoc_eq rfl]
      rw [e2]
      have h1 : Dep m n (B.length + 1) (addQ Q B.length (newR m n x B.length c)) fun j => pad n (G u) j ^^^ x j := by
        have := rd_diff (Q := Q) (pv := pv) hm hpd n B.length
        rw [hx] at this
        exact (this.congr (fun i hi j _ => by rw [hQo i hi]) fun _ _ => rfl).more
      have h2 : Dep m n (B.length + 1) (addQ Q B.length (newR m n x B.length c)) x := by
        refine ⟨fun k => if k = B.length then x c else 0, fun k => ?_, fun j hj => ?_⟩
        · show (if k = B.length then x c else 0) < 2 ^ m
          split; exact hxv c; exact Nat.two_pow_pos m
        · unfold cb
          rw [sm_one (Nat.lt_succ_self B.length)]
          · show x j = mul m (if B.length = B.length then x c else 0) _
            rw [if_pos rfl, hQn, hnl j hj, ← mul_assoc hm (hxv c) (inv_lt hm _) (hxv j), mul_inv hm (hxv c) h0, mul_oneL hm (hxv j)]
          · intro i _ hne; show mul m (if i = B.length then x c else 0) _ = 0; rw [if_neg hne, mul_zeroL]
      refine (h1.add h2).congr (fun _ _ _ _ => rfl) fun j hj => ?_
      show pad n (G u) j ^^^ x j ^^^ x j = _
      rw [Nat.xor_assoc, Nat.xor_self, Nat.xor_zero]; simp [pad, hj]
    · exact (hsp k (by omega)).congr (fun _ _ _ _ => rfl) fun j _ => by rw [sel_snoc B u k (by omega)]
end
end

end Go.Proofs.YtkfahoaiialndaaGreatDoor
