/-
  Linear algebra over a finite field as plain functions: combinations of rows, dependence, independence, how many independent rows there can be; the basis that is taken greedily from the rows of the present units.
-/
import Derived.Test.YtpjgmekpnlpjaaaDoorMatA
namespace Go.Proofs.YtpjgmekpnlpjaaaDoor
set_option linter.unusedVariables false
set_option linter.unusedSimpArgs false

/-- the combination of p rows -/
def cb (m p : Nat) (V : Mx) (c : Nat → Nat) : Nat → Nat := fun j => sm p fun k => mul m (c k) (V k j)
def Dep (m n p : Nat) (V : Mx) (r : Nat → Nat) : Prop := ∃ c, Vv m c ∧ ∀ j, j < n → r j = cb m p V c j
def Ind (m n p : Nat) (V : Mx) : Prop := ∀ c, Vv m c → (∀ j, j < n → cb m p V c j = 0) → ∀ k, k < p → c k = 0

theorem cb_xor (m p : Nat) (V : Mx) (c d : Nat → Nat) (j : Nat) : cb m p V (fun k => c k ^^^ d k) j = cb m p V c j ^^^ cb m p V d j := by
  unfold cb; rw [← sm_xor]; exact sm_congr fun k _ => mulL m _ _ _

theorem vv_xor {m : Nat} {c d : Nat → Nat} (hc : Vv m c) (hd : Vv m d) : Vv m fun k => c k ^^^ d k := fun k => Nat.xor_lt_two_pow (hc k) (hd k)

theorem vv_zero (m : Nat) : Vv m fun _ => 0 := fun _ => Nat.two_pow_pos m

theorem cb_zero (m p : Nat) (V : Mx) (c : Nat → Nat) (h : ∀ k, k < p → c k = 0) (j : Nat) : cb m p V c j = 0 := sm_zero fun k hk => by rw [h k hk, mul_zeroL]

theorem cb_congr {m p : Nat} {V U : Mx} {c d : Nat → Nat} {j : Nat} (h : ∀ k, k < p → c k = d k) (hv : ∀ k, k < p → V k j = U k j) : cb m p V c j = cb m p U d j := sm_congr fun k hk => by rw [h k hk, hv k hk]

theorem Ind.uniq {m n p : Nat} {V : Mx} (h : Ind m n p V) {c d : Nat → Nat} (hc : Vv m c) (hd : Vv m d) (he : ∀ j, j < n → cb m p V c j = cb m p V d j) : ∀ k, k < p → c k = d k := fun k hk => by
  have := h (fun k => c k ^^^ d k) (vv_xor hc hd) (fun j hj => by rw [cb_xor, he j hj, Nat.xor_self]) k hk
  exact xe this

theorem Ind.congr {m n p : Nat} {V U : Mx} (h : Ind m n p V) (hv : ∀ k, k < p → ∀ j, j < n → V k j = U k j) : Ind m n p U := fun c hc h0 k hk =>
  h c hc (fun j hj => by rw [cb_congr (fun _ _ => rfl) (fun k hk => hv k hk j hj)]; exact h0 j hj) k hk

theorem Dep.congr {m n p : Nat} {V U : Mx} {r s : Nat → Nat} (h : Dep m n p V r) (hv : ∀ k, k < p → ∀ j, j < n → V k j = U k j) (hr : ∀ j, j < n → r j = s j) : Dep m n p U s := by
  obtain ⟨c, hc, h1⟩ := h
  exact ⟨c, hc, fun j hj => by rw [← hr j hj, h1 j hj]; exact cb_congr (fun _ _ => rfl) fun k hk => hv k hk j hj⟩

section
variable {m : Nat} (hm : Fm m)
include hm

theorem cb_v {p : Nat} {V : Mx} {c : Nat → Nat} (hc : Vv m c) : Vv m (cb m p V c) := fun j => sm_lt fun k _ => mul_lt hm _ (hc k)

theorem cb_mul {p : Nat} {V : Mx} {c : Nat → Nat} (hc : Vv m c) (hV : Vm m V) {a : Nat} (ha : a < 2 ^ m) (j : Nat) : cb m p V (fun k => mul m a (c k)) j = mul m a (cb m p V c j) := by
  unfold cb; rw [sm_mulR]; exact sm_congr fun k _ => mul_assoc hm ha (hc k) (hV k j)

theorem cb_unit {p : Nat} {V : Mx} (hV : Vm m V) {t : Nat} (ht : t < p) (j : Nat) : cb m p V (fun k => if k = t then 1 else 0) j = V t j := by
  unfold cb; rw [sm_one ht]
  · simp [mul_oneL hm (hV t j)]
  · intro i _ hne; simp [hne, mul_zeroL]

theorem unit_v (t : Nat) : Vv m fun k => if k = t then 1 else 0 := fun k => by
  show (if k = t then 1 else 0) < 2 ^ m
  split; exact fm_one hm; exact Nat.two_pow_pos m

theorem Dep.mem {n p : Nat} {V : Mx} (hV : Vm m V) {t : Nat} (ht : t < p) : Dep m n p V (V t) := ⟨fun k => if k = t then 1 else 0, unit_v hm t, fun j _ => (cb_unit hm hV ht j).symm⟩

theorem Dep.trans {n p q : Nat} {V U : Mx} (hU : Vm m U) {r : Nat → Nat} (h : Dep m n p V r) (hv : ∀ k, k < p → Dep m n q U (V k)) : Dep m n q U r := by
  obtain ⟨c, hc, h1⟩ := h
  have hx : ∃ X : Mx, Vm m X ∧ ∀ k, k < p → ∀ j, j < n → V k j = cb m q U (X k) j := by
    refine ⟨fun k => if h : k < p then (hv k h).choose else fun _ => 0, fun k i => ?_, fun k hk j hj => ?_⟩
    · by_cases h : k < p
      · simp only [h, dif_pos]; exact (hv k h).choose_spec.1 i
      · simp only [h, dif_neg, not_false_iff]; exact Nat.two_pow_pos m
    · simp only [hk, dif_pos]; exact (hv k hk).choose_spec.2 j hj
  obtain ⟨X, hX, hXe⟩ := hx
  refine ⟨fun l => sm p fun k => mul m (c k) (X k l), fun l => sm_lt fun k _ => mul_lt hm _ (hc k), fun j hj => ?_⟩
  rw [h1 j hj]
  unfold cb
  have e : ∀ k, k < p → mul m (c k) (V k j) = sm q fun l => mul m (mul m (c k) (X k l)) (U l j) := fun k hk => by
    rw [hXe k hk j hj]; unfold cb; rw [sm_mulR]
    exact sm_congr fun l _ => (mul_assoc hm (hc k) (hX k l) (hU l j)).symm
  rw [sm_congr e, sm_swap]
  exact sm_congr fun l _ => by rw [sm_mulL]

omit hm in
theorem Dep.more {n p : Nat} {V : Mx} {r : Nat → Nat} (h : Dep m n p V r) : Dep m n (p + 1) V r := by
  obtain ⟨c, hc, h1⟩ := h
  refine ⟨fun k => if k < p then c k else 0, fun k => ?_, fun j hj => ?_⟩
  · show (if k < p then c k else 0) < 2 ^ m
    split; exact hc k; exact Nat.two_pow_pos m
  · rw [h1 j hj]
    show _ = sm p _ ^^^ _
    simp only [Nat.lt_irrefl, if_false, mul_zeroL, Nat.xor_zero]
    exact sm_congr fun k hk => by simp [hk]

omit hm in
theorem Dep.add {n p : Nat} {V : Mx} {r s : Nat → Nat} (h : Dep m n p V r) (k : Dep m n p V s) : Dep m n p V fun j => r j ^^^ s j := by
  obtain ⟨c, hc, h1⟩ := h
  obtain ⟨d, hd, h2⟩ := k
  exact ⟨_, vv_xor hc hd, fun j hj => by show r j ^^^ s j = _; rw [cb_xor, h1 j hj, h2 j hj]⟩

theorem cb_ker {n p : Nat} {V : Mx} (hV : Vm m V) {x : Nat → Nat} (hx : Vv m x) : Ker m n p (tr V) x ↔ ∀ j, j < n → cb m p V x j = 0 := by
  unfold Ker
  have e : ∀ i, dot m p (tr V i) x = cb m p V x i := fun i => sm_congr fun k _ => mul_comm hm (hV k i) (hx k)
  simp only [e]

theorem Ind.le {n p : Nat} {V : Mx} (hV : Vm m V) (h : Ind m n p V) : p ≤ n := by
  refine Nat.le_of_not_lt fun hlt => ?_
  obtain ⟨x, hx, ⟨j, hj, h0⟩, hk⟩ := ker_ex hm hlt (A := tr V) (fun i j => hV j i)
  exact h0 (h x hx ((cb_ker hm hV hx).1 hk) j hj)

/-- one more row that does not depend on the others -/
theorem Ind.snoc {n p : Nat} {V : Mx} (hV : Vm m V) (h : Ind m n p V) (hd : ¬ Dep m n p V (V p)) : Ind m n (p + 1) V := fun c hc h0 => by
  by_cases hp : c p = 0
  · intro k hk
    by_cases hkp : k = p
    · rw [hkp]; exact hp
    · refine h c hc (fun j hj => ?_) k (by omega)
      have := h0 j hj
      unfold cb at this
      rw [show sm (p + 1) (fun k => mul m (c k) (V k j)) = sm p (fun k => mul m (c k) (V k j)) ^^^ mul m (c p) (V p j) from rfl, hp, mul_zeroL, Nat.xor_zero] at this
      exact this
  · refine absurd ⟨fun k => mul m (inv m (c p)) (c k), fun k => mul_lt hm _ (inv_lt hm _), fun j hj => ?_⟩ hd
    have := h0 j hj
    unfold cb at this
    rw [show sm (p + 1) (fun k => mul m (c k) (V k j)) = cb m p V c j ^^^ mul m (c p) (V p j) from rfl] at this
    rw [cb_mul hm hc hV (inv_lt hm _), xe this, ← mul_assoc hm (inv_lt hm _) (hc p) (hV p j), mul_comm hm (inv_lt hm _) (hc p), mul_inv hm (hc p) hp, mul_oneL hm (hV p j)]

omit hm in
theorem Ind.prefix_ {n p q : Nat} {V : Mx} (h : Ind m n p V) (hq : q ≤ p) : Ind m n q V := fun c hc h0 k hk => by
  have hs : ∀ j d, sm (q + d) (fun k => mul m (if k < q then c k else 0) (V k j)) = sm q fun k => mul m (c k) (V k j) := fun j d => by
    induction d with
    | zero => exact sm_congr fun k hk => by simp [show k < q from hk]
    | succ d ih =>
      show sm (q + d) _ ^^^ mul m (if q + d < q then c (q + d) else 0) (V (q + d) j) = _
      rw [ih, if_neg (by omega), mul_zeroL, Nat.xor_zero]
  have := h (fun k => if k < q then c k else 0) (fun k => by show (if k < q then c k else 0) < 2 ^ m; split; exact hc k; exact Nat.two_pow_pos m) (fun j hj => by
    have := hs j (p - q)
    rw [show q + (p - q) = p by omega] at this
    exact this.trans (h0 j hj)) k (by omega)
  simpa [hk] using this

theorem Ind.full {n : Nat} {V : Mx} (hV : Vm m V) (h : Ind m n n V) {r : Nat → Nat} (hr : Vv m r) : Dep m n n V r := Classical.byContradiction fun hd => by
  have h2 : Ind m n (n + 1) fun k => if k < n then V k else r := by
    refine Ind.snoc hm (fun k j => ?_) (h.congr fun k hk j _ => by simp [hk]) fun hd2 => hd (hd2.congr (fun k hk j _ => by simp [hk]) fun j _ => by simp)
    by_cases hk : k < n
    · simp only [hk, if_true]; exact hV k j
    · simp only [hk, if_false]; exact hr j
  have := h2.le hm (fun k j => by
    by_cases hk : k < n
    · simp only [hk, if_true]; exact hV k j
    · simp only [hk, if_false]; exact hr j)
  omega

/-- p independent rows that depend on q rows: p is at most q -/
theorem Ind.exchange {n p q : Nat} {V U : Mx} (hV : Vm m V) (hU : Vm m U) (h : Ind m n p V) (hd : ∀ k, k < p → Dep m n q U (V k)) : p ≤ q := by
  refine Nat.le_of_not_lt fun hlt => ?_
  have hx : ∃ X : Mx, Vm m X ∧ ∀ k, k < p → ∀ j, j < n → V k j = cb m q U (X k) j := by
    refine ⟨fun k => if h : k < p then (hd k h).choose else fun _ => 0, fun k i => ?_, fun k hk j hj => ?_⟩
    · by_cases h : k < p
      · simp only [h, dif_pos]; exact (hd k h).choose_spec.1 i
      · simp only [h, dif_neg, not_false_iff]; exact Nat.two_pow_pos m
    · simp only [hk, dif_pos]; exact (hd k hk).choose_spec.2 j hj
  obtain ⟨X, hX, hXe⟩ := hx
  obtain ⟨x, hx, ⟨t, ht, h0⟩, hk⟩ := ker_ex hm hlt (A := tr X) (fun i j => hX j i)
  have hk2 : ∀ l, l < q → (sm p fun k => mul m (x k) (X k l)) = 0 := fun l hl => (cb_ker (n := q) hm hX hx).1 hk l hl
  refine h0 (h x hx (fun j hj => ?_) t ht)
  unfold cb
  have e : ∀ k, k < p → mul m (x k) (V k j) = sm q fun l => mul m (mul m (x k) (X k l)) (U l j) := fun k hk => by
    rw [hXe k hk j hj]; unfold cb; rw [sm_mulR]
    exact sm_congr fun l _ => (mul_assoc hm (hx k) (hX k l) (hU l j)).symm
  rw [sm_congr e, sm_swap]
  refine sm_zero fun l hl => ?_
  rw [← sm_mulL, hk2 l hl, mul_zeroL]
end

/-- the rows of the units of a list -/
abbrev sel (G : Mx) (B : List Nat) : Mx := fun i => G (B.getD i 0)

open Classical in
/-- the basis of the present units among the first k -/
noncomputable def bas (m n : Nat) (G : Mx) (hv : Nat → Bool) : Nat → List Nat
  | 0 => []
  | k + 1 => if hv k = true ∧ ¬ Dep m n (bas m n G hv k).length (sel G (bas m n G hv k)) (G k) then bas m n G hv k ++ [k] else bas m n G hv k

section
variable {m n : Nat} {G : Mx} {hv : Nat → Bool}

theorem bas_abs {k : Nat} (h : ¬ hv k = true) : bas m n G hv (k + 1) = bas m n G hv k := by
  rw [bas]
  exact if_neg fun q => h q.1
theorem bas_dep {k : Nat} (h : Dep m n (bas m n G hv k).length (sel G (bas m n G hv k)) (G k)) : bas m n G hv (k + 1) = bas m n G hv k := by
  rw [bas]
  exact if_neg fun q => q.2 h
theorem bas_new {k : Nat} (h : hv k = true) (hd : ¬ Dep m n (bas m n G hv k).length (sel G (bas m n G hv k)) (G k)) : bas m n G hv (k + 1) = bas m n G hv k ++ [k] := by
  rw [bas]
  exact if_pos ⟨h, hd⟩

theorem bas_step (k : Nat) : bas m n G hv (k + 1) = bas m n G hv k ∨ (hv k = true ∧ ¬ Dep m n (bas m n G hv k).length (sel G (bas m n G hv k)) (G k) ∧ bas m n G hv (k + 1) = bas m n G hv k ++ [k]) := by
  by_cases h : hv k = true
  · by_cases hd : Dep m n (bas m n G hv k).length (sel G (bas m n G hv k)) (G k)
    · exact .inl (bas_dep hd)
    · exact .inr ⟨h, hd, bas_new h hd⟩
  · exact .inl (bas_abs h)

theorem bas_mem : ∀ (k : Nat) (x : Nat), x ∈ bas m n G hv k → x < k ∧ hv x = true
  | 0, x, h => by cases h
  | k + 1, x, h => by
    rcases bas_step (m := m) (n := n) (G := G) (hv := hv) k with e | ⟨h1, _, e⟩
    · rw [e] at h; exact ⟨Nat.lt_succ_of_lt (bas_mem k x h).1, (bas_mem k x h).2⟩
    · rw [e] at h
      rcases List.mem_append.1 h with h | h
      · exact ⟨Nat.lt_succ_of_lt (bas_mem k x h).1, (bas_mem k x h).2⟩
      · rw [List.mem_singleton.1 h]; exact ⟨Nat.lt_succ_self k, h1⟩

theorem bas_at {k i : Nat} (h : i < (bas m n G hv k).length) : (bas m n G hv k).getD i 0 < k ∧ hv ((bas m n G hv k).getD i 0) = true := by
  have : (bas m n G hv k).getD i 0 = (bas m n G hv k)[i] := by simp [List.getD_eq_getElem?_getD, h]
  rw [this]; exact bas_mem k _ (List.getElem_mem h)

theorem bas_inc : ∀ (k i l : Nat), i < l → l < (bas m n G hv k).length → (bas m n G hv k).getD i 0 < (bas m n G hv k).getD l 0
  | 0, i, l, _, h => absurd h (Nat.not_lt_zero l)
  | k + 1, i, l, hil, h => by
    rcases bas_step (m := m) (n := n) (G := G) (hv := hv) k with e | ⟨h1, _, e⟩
    · rw [e] at h ⊢; exact bas_inc k i l hil h
    · rw [e] at h ⊢
      simp only [List.length_append, List.length_singleton] at h
      by_cases hl : l < (bas m n G hv k).length
      · rw [getD_snoc_lt hl, getD_snoc_lt (by omega)]; exact bas_inc k i l hil hl
      · rw [getD_snoc_eq (k := l) (by omega), getD_snoc_lt (by omega)]; exact (bas_at (by omega)).1

theorem bas_count : ∀ k : Nat, (bas m n G hv k).length ≤ ((List.range k).filter hv).length
  | 0 => Nat.le_refl _
  | k + 1 => by
    have ih := bas_count k
    rw [List.range_succ, List.filter_append, List.length_append]
    rcases bas_step (m := m) (n := n) (G := G) (hv := hv) k with e | ⟨h1, _, e⟩
    · rw [e]; omega
    · rw [e]; simp [h1]; exact ih

theorem sel_snoc (B : List Nat) (k : Nat) : ∀ i, i < B.length → ∀ j, sel G B i j = sel G (B ++ [k]) i j := fun i hi j => by
  show G (B.getD i 0) j = G ((B ++ [k]).getD i 0) j
  rw [getD_snoc_lt hi]

variable (hm : Fm m) (hG : Vm m G)
include hm hG

theorem bas_ind : ∀ k : Nat, Ind m n (bas m n G hv k).length (sel G (bas m n G hv k))
  | 0 => fun c _ _ k hk => absurd hk (Nat.not_lt_zero k)
  | k + 1 => by
    rcases bas_step (m := m) (n := n) (G := G) (hv := hv) k with e | ⟨h1, hd, e⟩
    · rw [e]; exact bas_ind k
    · rw [e, List.length_append]
      refine Ind.snoc hm (fun i j => hG _ j) ((bas_ind k).congr fun i hi j _ => sel_snoc _ _ i hi j) fun h => hd (h.congr (fun i hi j _ => (sel_snoc _ _ i hi j).symm) fun j _ => ?_)
      show G ((bas m n G hv k ++ [k]).getD (bas m n G hv k).length 0) j = _
      rw [getD_snoc_eq rfl]

theorem bas_le (k : Nat) : (bas m n G hv k).length ≤ n := (bas_ind hm hG k).le hm fun i j => hG _ j

omit hm hG in
theorem bas_mono {k : Nat} {r : Nat → Nat} (h : Dep m n (bas m n G hv k).length (sel G (bas m n G hv k)) r) : Dep m n (bas m n G hv (k + 1)).length (sel G (bas m n G hv (k + 1))) r := by
  rcases bas_step (m := m) (n := n) (G := G) (hv := hv) k with e | ⟨h1, hd, e⟩
  · rw [e]; exact h
  · rw [e, List.length_append]
    exact (h.congr (fun i hi j _ => sel_snoc _ _ i hi j) fun _ _ => rfl).more

theorem bas_span : ∀ (k u : Nat), u < k → hv u = true → Dep m n (bas m n G hv k).length (sel G (bas m n G hv k)) (G u)
  | 0, u, h, _ => absurd h (Nat.not_lt_zero u)
  | k + 1, u, h, hu => by
    by_cases hk : u = k
    · subst hk
      by_cases hd : Dep m n (bas m n G hv u).length (sel G (bas m n G hv u)) (G u)
      · exact bas_mono hd
      · rw [bas_new hu hd, List.length_append]
        have := Dep.mem (n := n) (p := (bas m n G hv u).length + 1) hm (V := sel G (bas m n G hv u ++ [u])) (fun i j => hG _ j) (t := (bas m n G hv u).length) (Nat.lt_succ_self _)
        refine this.congr (fun _ _ _ _ => rfl) fun j _ => ?_
        show G ((bas m n G hv u ++ [u]).getD (bas m n G hv u).length 0) j = _
        rw [getD_snoc_eq rfl]
    · exact bas_mono (bas_span k u (by omega) hu)

theorem bas_full {k : Nat} (h : (bas m n G hv k).length = n) {r : Nat → Nat} (hr : Vv m r) : Dep m n (bas m n G hv k).length (sel G (bas m n G hv k)) r := by
  have hi := bas_ind (n := n) (hv := hv) hm hG k
  rw [h] at hi ⊢
  exact hi.full hm (fun i j => hG _ j) hr

theorem bas_stop {k : Nat} (h : (bas m n G hv k).length = n) : ∀ d, bas m n G hv (k + d) = bas m n G hv k
  | 0 => rfl
  | d + 1 => by
    have ih := bas_stop h d
    rw [← Nat.add_assoc, bas_dep, ih]
    rw [ih]
    exact bas_full hm hG h (fun j => hG _ j)
end
end Go.Proofs.YtpjgmekpnlpjaaaDoor
