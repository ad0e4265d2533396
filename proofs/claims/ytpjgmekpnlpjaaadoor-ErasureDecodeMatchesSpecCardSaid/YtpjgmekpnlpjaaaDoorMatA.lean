/-
  Matrices over the fields as plain functions: sums, products, elimination, rank. No program stands behind this text.
-/
import Derived.Test.YtpjgmekpnlpjaaaDoorFldB
namespace Go.Proofs.YtpjgmekpnlpjaaaDoor
set_option linter.unusedVariables false
set_option linter.unusedSimpArgs false

/-- The sum of the first n values. -/
def sm : Nat → (Nat → Nat) → Nat
  | 0, _ => 0
  | n + 1, f => sm n f ^^^ f n
theorem sm_congr : ∀ {n : Nat} {f g : Nat → Nat}, (∀ i, i < n → f i = g i) → sm n f = sm n g
  | 0, _, _, _ => rfl
  | n + 1, f, g, h => by
    show sm n f ^^^ f n = sm n g ^^^ g n
    rw [sm_congr (fun i hi => h i (by omega)), h n (by omega)]
theorem sm_zero : ∀ {n : Nat} {f : Nat → Nat}, (∀ i, i < n → f i = 0) → sm n f = 0
  | 0, _, _ => rfl
  | n + 1, f, h => by
    show sm n f ^^^ f n = 0
    rw [sm_zero (fun i hi => h i (by omega)), h n (by omega)]; rfl
theorem sm_xor : ∀ (n : Nat) (f g : Nat → Nat), sm n (fun i => f i ^^^ g i) = sm n f ^^^ sm n g
  | 0, _, _ => (xs 0).symm
  | n + 1, f, g => by
    show sm n (fun i => f i ^^^ g i) ^^^ (f n ^^^ g n) = (sm n f ^^^ f n) ^^^ (sm n g ^^^ g n)
    rw [sm_xor n f g, xx]
theorem sm_lt {m : Nat} : ∀ {n : Nat} {f : Nat → Nat}, (∀ i, i < n → f i < 2 ^ m) → sm n f < 2 ^ m
  | 0, _, _ => Nat.two_pow_pos m
  | n + 1, f, h => Nat.xor_lt_two_pow (sm_lt fun i hi => h i (by omega)) (h n (by omega))
theorem sm_mulR (m c : Nat) : ∀ (n : Nat) (f : Nat → Nat), mul m c (sm n f) = sm n (fun i => mul m c (f i))
  | 0, _ => mul_zeroR m c
  | n + 1, f => by
    show mul m c (sm n f ^^^ f n) = sm n (fun i => mul m c (f i)) ^^^ mul m c (f n)
    rw [mulR, sm_mulR m c n f]
theorem sm_mulL (m c : Nat) : ∀ (n : Nat) (f : Nat → Nat), mul m (sm n f) c = sm n (fun i => mul m (f i) c)
  | 0, _ => mul_zeroL m c
  | n + 1, f => by
    show mul m (sm n f ^^^ f n) c = sm n (fun i => mul m (f i) c) ^^^ mul m (f n) c
    rw [mulL, sm_mulL m c n f]
theorem sm_swap (k : Nat) : ∀ (n : Nat) (f : Nat → Nat → Nat), sm n (fun i => sm k (fun j => f i j)) = sm k (fun j => sm n (fun i => f i j))
  | 0, f => (sm_zero fun _ _ => rfl).symm
  | n + 1, f => by
    show sm n (fun i => sm k (fun j => f i j)) ^^^ sm k (fun j => f n j) = sm k (fun j => sm n (fun i => f i j) ^^^ f n j)
    rw [sm_swap k n f, sm_xor]
theorem sm_one : ∀ {n : Nat} {f : Nat → Nat} {j : Nat}, j < n → (∀ i, i < n → i ≠ j → f i = 0) → sm n f = f j
  | 0, _, _, h, _ => absurd h (Nat.not_lt_zero _)
  | n + 1, f, j, h, hz => by
    show sm n f ^^^ f n = f j
    by_cases e : j = n
    · subst e
      rw [sm_zero fun i hi => hz i (by omega) (by omega), zx]
    · rw [sm_one (by omega) (fun i hi hne => hz i (by omega) hne), hz n (by omega) (by omega), xz]

/-- Matrices: valid everywhere. -/
abbrev Mx := Nat → Nat → Nat
def Vm (m : Nat) (A : Mx) : Prop := ∀ i j, A i j < 2 ^ m
def Vv (m : Nat) (x : Nat → Nat) : Prop := ∀ i, x i < 2 ^ m
/-- The product over n. -/
def mm (m n : Nat) (A B : Mx) : Mx := fun i j => sm n fun k => mul m (A i k) (B k j)
def tr (A : Mx) : Mx := fun i j => A j i
def idm : Mx := fun i j => if i = j then 1 else 0
section
variable {m : Nat} (hm : Fm m)
include hm
theorem mm_v {n : Nat} {A B : Mx} (hA : Vm m A) : Vm m (mm m n A B) := fun i j => sm_lt fun k _ => mul_lt hm _ (hA i k)
theorem idm_v : Vm m idm := fun i j => by unfold idm; split; exact fm_one hm; exact Nat.two_pow_pos m
theorem mm_idl {n : Nat} {A : Mx} (hA : Vm m A) {i : Nat} (j : Nat) (hi : i < n) : mm m n idm A i j = A i j := by
  unfold mm idm
  rw [sm_one hi (fun k _ hne => by rw [if_neg (Ne.symm hne), mul_zeroL]), if_pos rfl, mul_oneL hm (hA i j)]
theorem mm_idr {n : Nat} {A : Mx} (i : Nat) {j : Nat} (hj : j < n) : mm m n A idm i j = A i j := by
  unfold mm idm
  rw [sm_one hj (fun k _ hne => by rw [if_neg hne, mul_zeroR]), if_pos rfl, mul_oneR hm]
theorem mm_assoc {n k : Nat} {A B C : Mx} (hA : Vm m A) (hB : Vm m B) (hC : Vm m C) (i j : Nat) : mm m k (mm m n A B) C i j = mm m n A (mm m k B C) i j := by
  unfold mm
  have e1 : ∀ t, mul m (sm n fun k => mul m (A i k) (B k t)) (C t j) = sm n fun s => mul m (A i s) (mul m (B s t) (C t j)) := fun t => by
    rw [sm_mulL]
    exact sm_congr fun s _ => mul_assoc hm (hA i s) (hB s t) (hC t j)
  have e2 : ∀ s, mul m (A i s) (sm k fun t => mul m (B s t) (C t j)) = sm k fun t => mul m (A i s) (mul m (B s t) (C t j)) := fun s => sm_mulR m _ _ _
  rw [sm_congr fun t _ => e1 t, sm_congr fun s _ => e2 s, sm_swap]
theorem mm_tr {n : Nat} {A B : Mx} (hA : Vm m A) (hB : Vm m B) (i j : Nat) : tr (mm m n A B) i j = mm m n (tr B) (tr A) i j := by
  unfold tr mm
  exact sm_congr fun k _ => mul_comm hm (hA j k) (hB k i)
end
theorem mm_congr {m n : Nat} {A B A' B' : Mx} {i j : Nat} (hA : ∀ k, k < n → A i k = A' i k) (hB : ∀ k, k < n → B k j = B' k j) : mm m n A B i j = mm m n A' B' i j :=
  sm_congr fun k hk => by rw [hA k hk, hB k hk]

/-- The first row from i on with an element but 0 in this column. -/
def fpv (M : Mx) (col : Nat) : Nat → Nat → Nat
  | 0, i => i
  | n + 1, i => if M i col = 0 then fpv M col n (i + 1) else i
theorem fpv_le (M : Mx) (col : Nat) : ∀ n i, i ≤ fpv M col n i ∧ fpv M col n i ≤ i + n
  | 0, i => ⟨Nat.le_refl _, Nat.le_refl _⟩
  | n + 1, i => by
    show i ≤ (if M i col = 0 then fpv M col n (i + 1) else i) ∧ (if M i col = 0 then fpv M col n (i + 1) else i) ≤ i + (n + 1)
    have := fpv_le M col n (i + 1)
    split <;> omega
theorem fpv_zero (M : Mx) (col : Nat) : ∀ n i k, i ≤ k → k < fpv M col n i → M k col = 0
  | 0, i, k, h1, h2 => absurd h2 (by show ¬ k < i; omega)
  | n + 1, i, k, h1, h2 => by
    have h2 : k < (if M i col = 0 then fpv M col n (i + 1) else i) := h2
    split at h2
    · rename_i h
      by_cases e : k = i
      · rw [e]; exact h
      · exact fpv_zero M col n (i + 1) k (by omega) h2
    · omega
theorem fpv_ne (M : Mx) (col : Nat) : ∀ n i, fpv M col n i < i + n → M (fpv M col n i) col ≠ 0
  | 0, i, h => absurd h (by show ¬ i < i + 0; omega)
  | n + 1, i, h => by
    have h : (if M i col = 0 then fpv M col n (i + 1) else i) < i + (n + 1) := h
    show M (if M i col = 0 then fpv M col n (i + 1) else i) col ≠ 0
    split
    · rename_i h0
      rw [if_pos h0] at h
      exact fpv_ne M col n (i + 1) (by omega)
    · rename_i h0
      exact h0
/-- The pivot's row: R if there is none. -/
def prow (M : Mx) (R col top : Nat) : Nat := fpv M col (R - top) top
theorem prow_le {M : Mx} {R col top : Nat} (h : top ≤ R) : top ≤ prow M R col top ∧ prow M R col top ≤ R := by
  have := fpv_le M col (R - top) top
  unfold prow; omega
theorem prow_zero {M : Mx} {R col top : Nat} (k : Nat) (h1 : top ≤ k) (h2 : k < prow M R col top) : M k col = 0 := fpv_zero M col _ _ k h1 h2
theorem prow_ne {M : Mx} {R col top : Nat} (h : top ≤ R) (h2 : prow M R col top < R) : M (prow M R col top) col ≠ 0 := fpv_ne M col _ _ (by unfold prow at h2; omega)
theorem prow_is {M : Mx} {R col top p : Nat} (h1 : top ≤ p) (h2 : p < R) (h3 : M p col ≠ 0) (h4 : ∀ k, top ≤ k → k < p → M k col = 0) : prow M R col top = p := by
  have hle := prow_le (M := M) (col := col) (show top ≤ R by omega)
  rcases Nat.lt_trichotomy (prow M R col top) p with h | h | h
  · exact absurd (h4 _ hle.1 h) (prow_ne (by omega) (by omega))
  · exact h
  · exact absurd (prow_zero p h1 h) h3
theorem prow_none {M : Mx} {R col top : Nat} (h1 : top ≤ R) (h4 : ∀ k, top ≤ k → k < R → M k col = 0) : prow M R col top = R := by
  have hle := prow_le (M := M) (col := col) h1
  rcases Nat.lt_or_ge (prow M R col top) R with h | h
  · exact absurd (h4 _ hle.1 h) (prow_ne h1 h)
  · omega

def swp (M : Mx) (a b : Nat) : Mx := fun i => if i = a then M b else if i = b then M a else M i
/-- One column's work on the rows that have been swapped. -/
def clr (m : Nat) (N : Mx) (top col : Nat) : Mx := fun i j => if i = top then mul m (N top j) (inv m (N top col)) else N i j ^^^ mul m (mul m (N top j) (inv m (N top col))) (N i col)
def stp (m R col : Nat) (s : Mx × List Nat) : Mx × List Nat :=
  if prow s.1 R col s.2.length < R then (clr m (swp s.1 s.2.length (prow s.1 R col s.2.length)) s.2.length col, s.2 ++ [col]) else s
/-- Elimination in the first columns. -/
def red (m R : Nat) (A : Mx) : Nat → Mx × List Nat
  | 0 => (A, [])
  | c + 1 => stp m R c (red m R A c)
def rk (m R C : Nat) (A : Mx) : Nat := (red m R A C).2.length

theorem swp_v {m : Nat} {M : Mx} (h : Vm m M) (a b : Nat) : Vm m (swp M a b) := fun i j => by
  unfold swp; split
  · exact h _ _
  · split <;> exact h _ _
theorem clr_v {m : Nat} (hm : Fm m) {M : Mx} (h : Vm m M) (t c : Nat) : Vm m (clr m M t c) := fun i j => by
  unfold clr; split
  · exact mul_lt hm _ (h _ _)
  · exact Nat.xor_lt_two_pow (h _ _) (mul_lt hm _ (mul_lt hm _ (h _ _)))
theorem inv_ne {m : Nat} (hm : Fm m) {a : Nat} (ha : a < 2 ^ m) (h0 : a ≠ 0) : inv m a ≠ 0 := pw_ne hm ha h0 _

/-- A row times a vector. -/
def dot (m C : Nat) (r x : Nat → Nat) : Nat := sm C fun j => mul m (r j) (x j)
section
variable {m : Nat} (hm : Fm m)
include hm
theorem dot_lt {C : Nat} {r x : Nat → Nat} (hr : Vv m r) : dot m C r x < 2 ^ m := sm_lt fun j _ => mul_lt hm _ (hr j)
omit hm in
theorem dot_scale {C : Nat} {r x : Nat → Nat} {c : Nat} : dot m C (fun j => mul m (r j) c) x = mul m (dot m C r x) c := by
  unfold dot
  rw [sm_mulL]
  exact sm_congr fun j _ => mul_right m (r j) c (x j)
omit hm in
theorem dot_add (C : Nat) (r s x : Nat → Nat) : dot m C (fun j => r j ^^^ s j) x = dot m C r x ^^^ dot m C s x := by
  unfold dot
  rw [← sm_xor]
  exact sm_congr fun j _ => mulL m _ _ _
omit hm in
theorem dot_clr {C : Nat} {N : Mx} {x : Nat → Nat} (top col i : Nat) :
    dot m C (clr m N top col i) x = if i = top then mul m (dot m C (N top) x) (inv m (N top col)) else dot m C (N i) x ^^^ mul m (mul m (dot m C (N top) x) (inv m (N top col))) (N i col) := by
  have hs := dot_scale (m := m) (C := C) (r := N top) (x := x) (c := inv m (N top col))
  by_cases e : i = top
  · have h1 : clr m N top col i = fun j => mul m (N top j) (inv m (N top col)) := by unfold clr; funext j; rw [if_pos e]
    rw [if_pos e, ← hs, h1]
  · rw [if_neg e]
    have h1 : clr m N top col i = fun j => N i j ^^^ mul m (mul m (N top j) (inv m (N top col))) (N i col) := by unfold clr; funext j; rw [if_neg e]
    rw [h1, dot_add, dot_scale (r := fun j => mul m (N top j) (inv m (N top col))), hs]
end
/-- The vectors that a matrix takes to 0. -/
def Ker (m R C : Nat) (M : Mx) (x : Nat → Nat) : Prop := ∀ i, i < R → dot m C (M i) x = 0
theorem ker_swp {m R C : Nat} {M : Mx} {x : Nat → Nat} {a b : Nat} (ha : a < R) (hb : b < R) : Ker m R C (swp M a b) x ↔ Ker m R C M x := by
  constructor
  · intro h i hi
    by_cases e1 : i = a
    · subst e1
      have := h b hb
      unfold swp at this
      by_cases e : b = i
      · rw [if_pos e, e] at this; exact this
      · rw [if_neg e, if_pos rfl] at this; exact this
    · by_cases e2 : i = b
      · subst e2
        have := h a ha
        unfold swp at this
        rw [if_pos rfl] at this; exact this
      · have := h i hi
        unfold swp at this
        rw [if_neg e1, if_neg e2] at this; exact this
  · intro h i hi
    unfold swp
    by_cases e1 : i = a
    · rw [if_pos e1]; exact h b hb
    · rw [if_neg e1]
      by_cases e2 : i = b
      · rw [if_pos e2]; exact h a ha
      · rw [if_neg e2]; exact h i hi
section
variable {m : Nat} (hm : Fm m)
include hm
theorem ker_clr {R C : Nat} {N : Mx} (hN : Vm m N) {x : Nat → Nat} {top col : Nat} (ht : top < R) (h0 : N top col ≠ 0) : Ker m R C (clr m N top col) x ↔ Ker m R C N x := by
  constructor
  · intro h
    have h1 := h top ht
    rw [dot_clr, if_pos rfl] at h1
    have h2 : dot m C (N top) x = 0 := by
      by_cases e : dot m C (N top) x = 0
      · exact e
      · exact absurd h1 (mul_ne hm (dot_lt hm (hN top)) (inv_lt hm _) e (inv_ne hm (hN _ _) h0))
    intro i hi
    by_cases e : i = top
    · rw [e]; exact h2
    · have h3 := h i hi
      rw [dot_clr, if_neg e, h2, mul_zeroL, mul_zeroL, xz] at h3
      exact h3
  · intro h i hi
    rw [dot_clr, h top ht, mul_zeroL, mul_zeroL, xz]
    split
    · rfl
    · exact h i hi
end

/-- What elimination keeps. -/
structure Rd (m R : Nat) (A : Mx) (c : Nat) (M : Mx) (pv : List Nat) : Prop where
  v : Vm m M
  len : pv.length ≤ R
  lt : ∀ k, k < pv.length → pv.getD k 0 < c
  mono : ∀ k l, k < l → l < pv.length → pv.getD k 0 < pv.getD l 0
  one : ∀ k, k < pv.length → ∀ i, i < R → M i (pv.getD k 0) = if i = k then 1 else 0
  zero : ∀ i, pv.length ≤ i → i < R → ∀ j, j < c → M i j = 0
  ker : ∀ C x, Vv m x → (Ker m R C M x ↔ Ker m R C A x)
  full : pv.length = c ∨ ∃ j, j < c ∧ ∀ k, k < pv.length → pv.getD k 0 ≠ j
theorem getD_snoc_lt {l : List Nat} {x k : Nat} (h : k < l.length) : (l ++ [x]).getD k 0 = l.getD k 0 := by
  simp [List.getD_eq_getElem?_getD, List.getElem?_append_left h]
theorem getD_snoc_eq {l : List Nat} {x k : Nat} (h : k = l.length) : (l ++ [x]).getD k 0 = x := by
  subst h; simp [List.getD_eq_getElem?_getD]
theorem red_rd {m : Nat} (hm : Fm m) (R : Nat) {A : Mx} (hA : Vm m A) : ∀ c, Rd m R A c (red m R A c).1 (red m R A c).2
  | 0 => ⟨hA, Nat.zero_le _, fun k h => absurd h (Nat.not_lt_zero _), fun k l _ h => absurd h (Nat.not_lt_zero _), fun k h => absurd h (Nat.not_lt_zero _), fun _ _ _ j h => absurd h (Nat.not_lt_zero _), fun _ _ _ => Iff.rfl, .inl rfl⟩
  | c + 1 => by
    have ih := red_rd hm R hA c
    show Rd m R A (c + 1) (stp m R c (red m R A c)).1 (stp m R c (red m R A c)).2
    unfold stp
    generalize hs : red m R A c = s at ih ⊢
    clear hs
    obtain ⟨M, pv⟩ := s
    simp only at ih ⊢
    have hple := prow_le (M := M) (col := c) ih.len
    split
    · rename_i hp
      have hne := prow_ne ih.len hp
      generalize prow M R c pv.length = p at *
      obtain ⟨q, hq⟩ : ∃ q, q = pv.length := ⟨_, rfl⟩
      have hqR : q < R := by omega
      have hN0 : ∀ k, k < q → ∀ i, i < R → swp M q p i (pv.getD k 0) = if i = k then 1 else 0 := fun k hk i hi => by
        unfold swp
        by_cases e1 : i = q
        · rw [if_pos e1, ih.one k (by omega) p hp, if_neg (by omega), if_neg (by omega)]
        · rw [if_neg e1]
          by_cases e2 : i = p
          · rw [if_pos e2, ih.one k (by omega) q hqR, if_neg (by omega), if_neg (by omega)]
          · rw [if_neg e2, ih.one k (by omega) i hi]
      have hz : ∀ i, q ≤ i → i < R → ∀ j, j < c → swp M q p i j = 0 := fun i h1 h2 j hj => by
        unfold swp
        split
        · exact ih.zero p (by omega) hp j hj
        · split
          · exact ih.zero q (by omega) hqR j hj
          · exact ih.zero i (by omega) h2 j hj
      have hN := swp_v ih.v q p
      have hnt : swp M q p q c ≠ 0 := by unfold swp; rw [if_pos rfl]; exact hne
      have hker : ∀ C x, Vv m x → (Ker m R C (swp M q p) x ↔ Ker m R C A x) := fun C x hx => (ker_swp hqR hp).trans (ih.ker C x hx)
      rw [← hq]
      try simp only
      generalize swp M q p = N at *
      have hone : ∀ i, i < R → clr m N q c i c = if i = q then 1 else 0 := fun i hi => by
        unfold clr
        rw [mul_inv hm (hN q c) hnt, mul_oneL hm (hN i c), xs]
      refine ⟨clr_v hm hN q c, by rw [List.length_append, ← hq]; simp; omega, fun k hk => ?_, fun k l hkl hl => ?_, fun k hk i hi => ?_, fun i h1 h2 j hj => ?_, fun C x hx => (ker_clr hm hN hqR hnt).trans (hker C x hx), ?_⟩
      · rw [List.length_append, ← hq] at hk
        simp only [List.length_singleton] at hk
        by_cases e : k < q
        · rw [getD_snoc_lt (by omega)]
          have := ih.lt k (by omega)
          omega
        · rw [getD_snoc_eq (by omega)]; omega
      · rw [List.length_append, ← hq] at hl
        simp only [List.length_singleton] at hl
        rw [getD_snoc_lt (by omega)]
        by_cases e : l < q
        · rw [getD_snoc_lt (by omega)]; exact ih.mono k l hkl (by omega)
        · rw [getD_snoc_eq (by omega)]; exact ih.lt k (by omega)
      · rw [List.length_append, ← hq] at hk
        simp only [List.length_singleton] at hk
        by_cases e : k < q
        · rw [getD_snoc_lt (by omega)]
          unfold clr
          rw [hN0 k e q hqR, if_neg (show ¬ q = k by omega), mul_zeroL, mul_zeroL, xz, hN0 k e i hi]
          split
          · rw [if_neg (by omega)]
          · rfl
        · rw [getD_snoc_eq (by omega), hone i hi]
          obtain rfl : k = q := by omega
          rfl
      · rw [List.length_append, ← hq] at h1
        simp only [List.length_singleton] at h1
        by_cases e : j = c
        · rw [e, hone i h2, if_neg (by omega)]
        · unfold clr
          rw [if_neg (by omega), hz q (by omega) hqR j (by omega), mul_zeroL, mul_zeroL, xz, hz i (by omega) h2 j (by omega)]
      · rcases ih.full with h | ⟨j, h1, h2⟩
        · left; rw [List.length_append, ← hq]; simp; omega
        · right
          refine ⟨j, by omega, fun k hk => ?_⟩
          rw [List.length_append, ← hq] at hk
          simp only [List.length_singleton] at hk
          by_cases e : k < q
          · rw [getD_snoc_lt (by omega)]; exact h2 k (by omega)
          · rw [getD_snoc_eq (by omega)]; omega
    · rename_i hp
      have hpR : prow M R c pv.length = R := by omega
      refine ⟨ih.v, ih.len, fun k hk => Nat.lt_succ_of_lt (ih.lt k hk), ih.mono, ih.one, fun i h1 h2 j hj => ?_, ih.ker, ?_⟩
      · by_cases e : j = c
        · rw [e]; exact prow_zero i h1 (by rw [hpR]; exact h2)
        · exact ih.zero i h1 h2 j (by omega)
      · right
        exact ⟨c, by omega, fun k hk => Nat.ne_of_lt (ih.lt k hk)⟩

section
variable {m : Nat} (hm : Fm m)
include hm
/-- A vector with one 1. -/
theorem dot_unit {C : Nat} {r : Nat → Nat} {t : Nat} (ht : t < C) : dot m C r (fun x => if x = t then 1 else 0) = r t := by
  unfold dot
  have h : (sm C fun j => mul m (r j) (if j = t then 1 else 0)) = mul m (r t) (if t = t then 1 else 0) := sm_one (f := fun j => mul m (r j) (if j = t then 1 else 0)) ht (fun i _ hne => by show mul m (r i) (if i = t then 1 else 0) = 0; rw [if_neg hne, mul_zeroR])
  rw [if_pos rfl, mul_oneR hm] at h
  exact h
omit hm in
theorem dot_addR (C : Nat) (r x y : Nat → Nat) : dot m C r (fun j => x j ^^^ y j) = dot m C r x ^^^ dot m C r y := by
  unfold dot
  rw [← sm_xor]
  exact sm_congr fun j _ => mulR m _ _ _
/-- A vector that stands at these places. -/
def put (m n : Nat) (p : Nat → Nat) (y : Nat → Nat) : Nat → Nat := fun x => sm n fun k => mul m (y k) (if x = p k then 1 else 0)
omit hm in
theorem dot_put (hm : Fm m) {C n : Nat} {r p y : Nat → Nat} (hr : Vv m r) (hy : Vv m y) (hp : ∀ k, k < n → p k < C) : dot m C r (put m n p y) = sm n fun k => mul m (r (p k)) (y k) := by
  unfold dot put
  have e1 : ∀ j, mul m (r j) (sm n fun k => mul m (y k) (if j = p k then 1 else 0)) = sm n fun k => mul m (mul m (r j) (if j = p k then 1 else 0)) (y k) := fun j => by
    rw [sm_mulR]
    refine sm_congr fun k _ => ?_
    have h1 : (if j = p k then 1 else 0) < 2 ^ m := by split; exact fm_one hm; exact Nat.two_pow_pos m
    rw [mul_comm hm (hy k) h1, mul_assoc hm (hr j) h1 (hy k)]
  rw [sm_congr fun j _ => e1 j, sm_swap]
  refine sm_congr fun k hk => ?_
  rw [sm_one (hp k hk) (fun i _ hne => by rw [if_neg hne, mul_zeroR, mul_zeroL]), if_pos rfl, mul_oneR hm]
omit hm in
theorem put_v (hm : Fm m) {n : Nat} {p y : Nat → Nat} (hy : Vv m y) : Vv m (put m n p y) := fun x => sm_lt fun k _ => mul_lt hm _ (hy k)

/-- The columns are sums of multiples of the pivot columns. -/
theorem red_factor {R : Nat} {A : Mx} (hA : Vm m A) {c : Nat} {i j : Nat} (hi : i < R) (hj : j < c) :
    A i j = sm (rk m R c A) fun k => mul m (A i ((red m R A c).2.getD k 0)) ((red m R A c).1 k j) := by
  have H := red_rd hm R hA c
  unfold rk
  generalize (red m R A c).1 = M at *
  generalize (red m R A c).2 = pv at *
  have hy : Vv m (fun k => M k j) := fun k => H.v k j
  have hu : Vv m (fun x => if x = j then 1 else 0) := fun x => by
    show (if x = j then 1 else 0) < 2 ^ m
    split; exact fm_one hm; exact Nat.two_pow_pos m
  have hx : Vv m (fun x => (if x = j then 1 else 0) ^^^ put m pv.length (fun k => pv.getD k 0) (fun k => M k j) x) := fun x => Nat.xor_lt_two_pow (hu x) (put_v hm hy x)
  have hd : ∀ r : Nat → Nat, Vv m r → dot m c r (fun x => (if x = j then 1 else 0) ^^^ put m pv.length (fun k => pv.getD k 0) (fun k => M k j) x) = r j ^^^ sm pv.length fun k => mul m (r (pv.getD k 0)) (M k j) := fun r hr => by
    rw [dot_addR, dot_unit hm hj, dot_put hm hr hy H.lt]
  have hk : Ker m R c M (fun x => (if x = j then 1 else 0) ^^^ put m pv.length (fun k => pv.getD k 0) (fun k => M k j) x) := fun t ht => by
    rw [hd _ (H.v t)]
    by_cases e : t < pv.length
    · rw [sm_one e (fun k hk hne => by rw [H.one k hk t ht, if_neg (Ne.symm hne), mul_zeroL]), H.one t e t ht, if_pos rfl, mul_oneL hm (H.v t j), xs]
    · rw [H.zero t (by omega) ht j hj, sm_zero (fun k hk => by rw [H.one k hk t ht, if_neg (by omega), mul_zeroL]), xs]
  have h2 := (H.ker c _ hx).1 hk i hi
  rw [hd _ (hA i)] at h2
  exact xe h2
/-- The pivot columns are independent. -/
theorem red_indep {R : Nat} {A : Mx} (hA : Vm m A) {c : Nat} {y : Nat → Nat} (hy : Vv m y) (h : ∀ i, i < R → (sm (rk m R c A) fun k => mul m (A i ((red m R A c).2.getD k 0)) (y k)) = 0) :
    ∀ k, k < rk m R c A → y k = 0 := by
  have H := red_rd hm R hA c
  unfold rk at *
  generalize (red m R A c).1 = M at *
  generalize (red m R A c).2 = pv at *
  have hx := put_v (m := m) hm (n := pv.length) (p := fun k => pv.getD k 0) hy
  have h1 : Ker m R c A (put m pv.length (fun k => pv.getD k 0) y) := fun i hi => by
    rw [dot_put hm (hA i) hy H.lt]; exact h i hi
  have h2 := (H.ker c _ hx).2 h1
  intro k hk
  have hkR : k < R := by have := H.len; omega
  have h3 := h2 k hkR
  rw [dot_put hm (H.v k) hy H.lt, sm_one hk (fun l hl hne => by rw [H.one l hl k hkR, if_neg (Ne.symm hne), mul_zeroL]), H.one k hk k hkR, if_pos rfl, mul_oneL hm (hy k)] at h3
  exact h3
/-- More columns than rows: some vector but 0 goes to 0. -/
theorem ker_ex {R C : Nat} (hRC : R < C) {A : Mx} (hA : Vm m A) : ∃ x, Vv m x ∧ (∃ j, j < C ∧ x j ≠ 0) ∧ Ker m R C A x := by
  have H := red_rd hm R hA C
  generalize (red m R A C).1 = M at *
  generalize (red m R A C).2 = pv at *
  rcases H.full with h | ⟨j, hj, hn⟩
  · have := H.len; omega
  have hy : Vv m (fun k => M k j) := fun k => H.v k j
  have hu : Vv m (fun x => if x = j then 1 else 0) := fun x => by
    show (if x = j then 1 else 0) < 2 ^ m
    split; exact fm_one hm; exact Nat.two_pow_pos m
  have hx : Vv m (fun x => (if x = j then 1 else 0) ^^^ put m pv.length (fun k => pv.getD k 0) (fun k => M k j) x) := fun x => Nat.xor_lt_two_pow (hu x) (put_v hm hy x)
  refine ⟨_, hx, ⟨j, hj, ?_⟩, (H.ker C _ hx).1 fun t ht => ?_⟩
  · show (if j = j then 1 else 0) ^^^ put m pv.length (fun k => pv.getD k 0) (fun k => M k j) j ≠ 0
    rw [if_pos rfl]
    unfold put
    rw [sm_zero (fun k hk => by rw [if_neg (Ne.symm (hn k hk)), mul_zeroR])]
    decide
  · rw [dot_addR, dot_unit hm hj, dot_put hm (H.v t) hy H.lt]
    by_cases e : t < pv.length
    · rw [sm_one e (fun k hk hne => by rw [H.one k hk t ht, if_neg (Ne.symm hne), mul_zeroL]), H.one t e t ht, if_pos rfl, mul_oneL hm (H.v t j), xs]
    · rw [H.zero t (by omega) ht j hj, sm_zero (fun k hk => by rw [H.one k hk t ht, if_neg (by omega), mul_zeroL]), xs]
/-- A matrix that is a product over r has at most r pivots. -/
theorem rk_le {R C r : Nat} {A X Y : Mx} (hA : Vm m A) (hX : Vm m X) (hY : Vm m Y) (h : ∀ i j, i < R → j < C → A i j = mm m r X Y i j) : rk m R C A ≤ r := by
  rcases Nat.lt_or_ge r (rk m R C A) with hlt | hge
  · exfalso
    have H := red_rd hm R hA C
    obtain ⟨y, hy, ⟨j, hj, hne⟩, hk⟩ := ker_ex hm hlt (A := fun k t => Y k ((red m R A C).2.getD t 0)) (fun k t => hY _ _)
    refine hne (red_indep hm hA hy (fun i hi => ?_) j hj)
    have hlt2 : ∀ k, k < rk m R C A → (red m R A C).2.getD k 0 < C := H.lt
    have e1 : ∀ k, k < rk m R C A → mul m (A i ((red m R A C).2.getD k 0)) (y k) = sm r fun s => mul m (X i s) (mul m (Y s ((red m R A C).2.getD k 0)) (y k)) := fun k hk => by
      rw [h i _ hi (hlt2 k hk)]
      unfold mm
      rw [sm_mulL]
      exact sm_congr fun s _ => mul_assoc hm (hX i s) (hY _ _) (hy k)
    rw [sm_congr e1, sm_swap]
    refine sm_zero fun s hs => ?_
    rw [← sm_mulR]
    have h0 : (sm (rk m R C A) fun k => mul m (Y s ((red m R A C).2.getD k 0)) (y k)) = 0 := hk s hs
    rw [h0, mul_zeroR]
  · exact hge
/-- A matrix is a product over its rank. -/
theorem rk_fac {R : Nat} (C : Nat) {A : Mx} (hA : Vm m A) : ∃ X Y, Vm m X ∧ Vm m Y ∧ ∀ i j, i < R → j < C → A i j = mm m (rk m R C A) X Y i j :=
  ⟨fun i k => A i ((red m R A C).2.getD k 0), (red m R A C).1, fun _ _ => hA _ _, (red_rd hm R hA C).v, fun i j hi hj => red_factor hm hA hi hj⟩
theorem rk_tr_le (R C : Nat) {A : Mx} (hA : Vm m A) : rk m C R (tr A) ≤ rk m R C A := by
  obtain ⟨X, Y, hX, hY, h⟩ := rk_fac hm (R := R) C hA
  refine rk_le hm (X := tr Y) (Y := tr X) (fun i j => hA j i) (fun i j => hY j i) (fun i j => hX j i) fun i j hi hj => ?_
  show A j i = _
  rw [h j i hj hi]
  exact mm_tr hm hX hY i j
theorem rk_tr (R C : Nat) {A : Mx} (hA : Vm m A) : rk m C R (tr A) = rk m R C A :=
  Nat.le_antisymm (rk_tr_le hm R C hA) (rk_tr_le hm C R (A := tr A) (fun i j => hA j i))
theorem rk_mul_l {R n C : Nat} {A B P : Mx} (hA : Vm m A) (hB : Vm m B) (hP : Vm m P) (h : ∀ i j, i < R → j < C → P i j = mm m n A B i j) : rk m R C P ≤ rk m R n A := by
  obtain ⟨X, Y, hX, hY, h2⟩ := rk_fac hm (R := R) n hA
  refine rk_le hm hP hX (mm_v hm (n := n) (B := B) hY) fun i j hi hj => ?_
  rw [h i j hi hj, ← mm_assoc hm hX hY hB]
  exact mm_congr (fun k hk => h2 i k hi hk) (fun _ _ => rfl)
theorem rk_mul_r {R n C : Nat} {A B P : Mx} (hA : Vm m A) (hB : Vm m B) (hP : Vm m P) (h : ∀ i j, i < R → j < C → P i j = mm m n A B i j) : rk m R C P ≤ rk m n C B := by
  obtain ⟨X, Y, hX, hY, h2⟩ := rk_fac hm (R := n) C hB
  refine rk_le hm hP (mm_v hm (n := n) (B := X) hA) hY fun i j hi hj => ?_
  rw [h i j hi hj, mm_assoc hm hA hX hY]
  exact mm_congr (fun _ _ => rfl) (fun k hk => h2 k j hk hj)
theorem rk_le_rows (R C : Nat) {A : Mx} (hA : Vm m A) : rk m R C A ≤ R := (red_rd hm R hA C).len
theorem rk_le_cols (R C : Nat) {A : Mx} (hA : Vm m A) : rk m R C A ≤ C := by
  rw [← rk_tr hm R C hA]; exact rk_le_rows hm C R (A := tr A) (fun i j => hA j i)
theorem rk_id (n : Nat) {A : Mx} (hA : Vm m A) (h : ∀ i j, i < n → j < n → A i j = idm i j) : rk m n n A = n := by
  refine Nat.le_antisymm (rk_le_rows hm n n hA) ?_
  rcases Nat.lt_or_ge (rk m n n A) n with hlt | hge
  · exfalso
    obtain ⟨X, Y, hX, hY, h2⟩ := rk_fac hm (R := n) n hA
    obtain ⟨y, hy, ⟨j, hj, hne⟩, hk⟩ := ker_ex hm hlt hY
    refine hne ?_
    have e1 : dot m n (A j) y = y j := by
      unfold dot
      rw [sm_one hj (fun k hk hne => by rw [h j k hj hk, idm, if_neg (Ne.symm hne), mul_zeroL]), h j j hj hj, idm, if_pos rfl, mul_oneL hm (hy j)]
    rw [← e1]
    unfold dot
    have e2 : ∀ t, t < n → mul m (A j t) (y t) = sm (rk m n n A) fun s => mul m (X j s) (mul m (Y s t) (y t)) := fun t ht => by
      rw [h2 j t hj ht]
      unfold mm
      rw [sm_mulL]
      exact sm_congr fun s _ => mul_assoc hm (hX j s) (hY _ _) (hy t)
    rw [sm_congr e2, sm_swap]
    refine sm_zero fun s hs => ?_
    rw [← sm_mulR]
    have h0 : (sm n fun t => mul m (Y s t) (y t)) = 0 := hk s hs
    rw [h0, mul_zeroR]
  · exact hge
end

/-- Elimination sees the rows and columns of the matrix alone. -/
theorem red_congr {m R C : Nat} {A B : Mx} (h : ∀ i j, i < R → j < C → A i j = B i j) : ∀ c, c ≤ C → (red m R A c).2 = (red m R B c).2 ∧ (red m R A c).2.length ≤ R ∧ ∀ i j, i < R → j < C → (red m R A c).1 i j = (red m R B c).1 i j
  | 0, _ => ⟨rfl, Nat.zero_le _, h⟩
  | c + 1, hc => by
    obtain ⟨h1, h2, h3⟩ := red_congr h c (by omega)
    show (stp m R c (red m R A c)).2 = (stp m R c (red m R B c)).2 ∧ (stp m R c (red m R A c)).2.length ≤ R ∧ ∀ i j, i < R → j < C → (stp m R c (red m R A c)).1 i j = (stp m R c (red m R B c)).1 i j
    generalize red m R A c = s at h1 h2 h3 ⊢
    generalize red m R B c = t at h1 h2 h3 ⊢
    obtain ⟨M, pv⟩ := s
    obtain ⟨N, qv⟩ := t
    simp only at h1 h2 h3
    subst h1
    have hp : prow M R c pv.length = prow N R c pv.length := by
      have ha := prow_le (M := M) (col := c) h2
      rcases Nat.lt_or_ge (prow M R c pv.length) R with hlt | hge
      · refine (prow_is ha.1 hlt ?_ fun k h4 h5 => ?_).symm
        · rw [← h3 _ c hlt (by omega)]; exact prow_ne h2 hlt
        · rw [← h3 k c (by omega) (by omega)]; exact prow_zero k h4 h5
      · have he : prow M R c pv.length = R := by omega
        rw [he]
        refine (prow_none h2 fun k h4 h5 => ?_).symm
        rw [← h3 k c h5 (by omega)]; exact prow_zero k h4 (by rw [he]; exact h5)
    unfold stp
    simp only
    rw [← hp]
    have ha := prow_le (M := M) (col := c) h2
    generalize prow M R c pv.length = p at *
    split
    · rename_i hlt
      have hs : ∀ i j, i < R → j < C → swp M pv.length p i j = swp N pv.length p i j := fun i j hi hj => by
        unfold swp
        split
        · exact h3 _ _ hlt hj
        · split
          · exact h3 _ _ (by omega) hj
          · exact h3 _ _ hi hj
      refine ⟨rfl, by simp; omega, fun i j hi hj => ?_⟩
      simp only
      unfold clr
      rw [hs pv.length j (by omega) hj, hs pv.length c (by omega) (by omega), hs i j hi hj, hs i c hi (by omega)]
    · exact ⟨rfl, h2, h3⟩
/-- Pivots are only added; without a new one nothing has changed. -/
theorem red_more (m R : Nat) (A : Mx) (c : Nat) : ∀ d, (red m R A c).2.length ≤ (red m R A (c + d)).2.length ∧ ((red m R A (c + d)).2.length = (red m R A c).2.length → red m R A (c + d) = red m R A c)
  | 0 => ⟨Nat.le_refl _, fun _ => rfl⟩
  | d + 1 => by
    obtain ⟨h1, h2⟩ := red_more m R A c d
    have e : red m R A (c + (d + 1)) = stp m R (c + d) (red m R A (c + d)) := rfl
    rw [e]
    unfold stp
    split
    · simp only [List.length_append, List.length_singleton]
      exact ⟨by omega, fun h => by omega⟩
    · exact ⟨h1, h2⟩

end Go.Proofs.YtpjgmekpnlpjaaaDoor
