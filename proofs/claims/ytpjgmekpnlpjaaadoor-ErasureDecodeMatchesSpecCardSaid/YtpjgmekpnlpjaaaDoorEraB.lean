/-
  The program's basis as plain functions: reduced rows with the coefficients that make them, and what reducing one more row yields.
-/
import Derived.Test.YtpjgmekpnlpjaaaDoorEraA
namespace Go.Proofs.YtpjgmekpnlpjaaaDoor
set_option linter.unusedVariables false
set_option linter.unusedSimpArgs false

/-- a row, reduced by the first i reduced rows -/
def rd (m : Nat) (Q : Mx) (pv : List Nat) (r : Nat → Nat) : Nat → Nat → Nat
  | 0 => r
  | i + 1 => fun j => rd m Q pv r i j ^^^ mul m (rd m Q pv r i (pv.getD i 0)) (Q i j)

/-- a row of the generator with room for coefficients -/
def pad (n : Nat) (r : Nat → Nat) : Nat → Nat := fun j => if j < n then r j else 0

structure Rdc (m n : Nat) (G : Mx) (B pv : List Nat) (Q : Mx) : Prop where
  len : pv.length = B.length
  pl : ∀ i, i < B.length → pv.getD i 0 < n
  one : ∀ i, i < B.length → Q i (pv.getD i 0) = 1
  low : ∀ i k, i < k → k < B.length → Q k (pv.getD i 0) = 0
  v : Vm m Q
  com : ∀ i, i < B.length → ∀ j, j < n → Q i j = cb m B.length (sel G B) (fun k => Q i (n + k)) j
  hi : ∀ i, i < B.length → ∀ k, B.length ≤ k → k < n → Q i (n + k) = 0
  spn : ∀ k, k < B.length → Dep m n B.length Q (sel G B k)

theorem rdc_nil (m n : Nat) (G Q : Mx) (hQ : Vm m Q) : Rdc m n G [] [] Q :=
  ⟨rfl, fun i h => absurd h (Nat.not_lt_zero i), fun i h => absurd h (Nat.not_lt_zero i), fun i k _ h => absurd h (Nat.not_lt_zero k), hQ, fun i h => absurd h (Nat.not_lt_zero i), fun i h => absurd h (Nat.not_lt_zero i), fun i h => absurd h (Nat.not_lt_zero i)⟩

section
variable {m n : Nat} {G : Mx} {B pv : List Nat} {Q : Mx} (hm : Fm m)
include hm

theorem rd_v {r : Nat → Nat} (hr : Vv m r) : ∀ i, Vv m (rd m Q pv r i)
  | 0 => hr
  | i + 1 => fun j => Nat.xor_lt_two_pow (rd_v hr i j) (mul_lt hm _ (rd_v hr i _))

omit hm in
theorem pad_v {r : Nat → Nat} (hr : Vv m r) : Vv m (pad n r) := fun j => by
  unfold pad; split; exact hr j; exact Nat.two_pow_pos m

theorem rd_zero (h : Rdc m n G B pv Q) {r : Nat → Nat} (hr : Vv m r) : ∀ i, i ≤ B.length → ∀ l, l < i → rd m Q pv r i (pv.getD l 0) = 0
  | 0, _, l, hl => absurd hl (Nat.not_lt_zero l)
  | i + 1, hi, l, hl => by
    show rd m Q pv r i _ ^^^ mul m _ _ = 0
    by_cases e : l = i
    · rw [e, h.one i (by omega), mul_oneR hm, Nat.xor_self]
    · rw [rd_zero h hr i (by omega) l (by omega), h.low l i (by omega) (by omega), mul_zeroR, Nat.xor_self]

theorem rd_com (h : Rdc m n G B pv Q) (hG : Vm m G) {u : Nat} : ∀ i, i ≤ B.length → ∀ j, j < n → rd m Q pv (pad n (G u)) i j = G u j ^^^ cb m B.length (sel G B) (fun k => rd m Q pv (pad n (G u)) i (n + k)) j
  | 0, _, j, hj => by
    rw [cb_zero]
    · show pad n (G u) j = _; simp [pad, hj]
    · intro k _; show (if n + k < n then _ else 0) = 0; rw [if_neg (by omega)]
  | i + 1, hi, j, hj => by
    have hv := rd_v (Q := Q) (pv := pv) hm (pad_v (n := n) (hG u)) i
    show rd m Q pv _ i j ^^^ mul m _ (Q i j) = _
    rw [rd_com h hG i (by omega) j hj, h.com i (by omega) j hj, ← cb_mul hm (fun k => h.v i (n + k)) (fun i j => hG _ j) (hv _), Nat.xor_assoc, ← cb_xor]
    rfl

omit hm in
theorem rd_hi (h : Rdc m n G B pv Q) (r : Nat → Nat) : ∀ i, i ≤ B.length → ∀ k, B.length ≤ k → k < n → rd m Q pv (pad n r) i (n + k) = 0
  | 0, _, k, _, _ => by show (if n + k < n then _ else 0) = 0; rw [if_neg (by omega)]
  | i + 1, hi, k, h1, h2 => by
    show rd m Q pv _ i (n + k) ^^^ mul m _ (Q i (n + k)) = 0
    rw [rd_hi h r i (by omega) k h1 h2, h.hi i (by omega) k h1 h2, mul_zeroR, Nat.xor_self]

omit hm in
theorem rd_eq (r : Nat → Nat) (j : Nat) : ∀ i, rd m Q pv r i j = r j ^^^ cb m i Q (fun l => rd m Q pv r l (pv.getD l 0)) j
  | 0 => (Nat.xor_zero _).symm
  | i + 1 => by
    show rd m Q pv r i j ^^^ mul m _ (Q i j) = _
    rw [rd_eq r j i, Nat.xor_assoc]; rfl

theorem rd_diff {r : Nat → Nat} (hr : Vv m r) (n p : Nat) : Dep m n p Q fun j => r j ^^^ rd m Q pv r p j :=
  ⟨fun l => rd m Q pv r l (pv.getD l 0), fun l => rd_v hm hr l _, fun j _ => by
    show r j ^^^ rd m Q pv r p j = _
    rw [rd_eq r j p, ← Nat.xor_assoc, Nat.xor_self, Nat.zero_xor]⟩

/-- what depends on the reduced rows and is 0 in all their columns is 0 -/
theorem piv_zero (h : Rdc m n G B pv Q) {x : Nat → Nat} (hd : Dep m n B.length Q x) (hz : ∀ l, l < B.length → x (pv.getD l 0) = 0) : ∀ j, j < n → x j = 0 := by
  obtain ⟨e, he, h1⟩ := hd
  have h0 : ∀ i, i < B.length → e i = 0 := by
    intro i
    induction i using Nat.strongRecOn with
    | _ i ih =>
      intro hi
      have := h1 _ (h.pl i hi)
      rw [hz i hi] at this
      unfold cb at this
      rw [sm_one hi] at this
      · rw [h.one i hi, mul_oneR hm] at this; exact this.symm
      · intro k hk hne
        by_cases hlt : k < i
        · rw [ih k hlt (by omega), mul_zeroL]
        · rw [h.low i k (by omega) hk, mul_zeroR]
  intro j hj
  rw [h1 j hj]; exact cb_zero _ _ _ _ h0 j

/-- a row is reduced to 0 if and only if it depends on the rows of the basis -/
theorem rd_dep (h : Rdc m n G B pv Q) (hG : Vm m G) {u : Nat} (hd : Dep m n B.length (sel G B) (G u)) : ∀ j, j < n → rd m Q pv (pad n (G u)) B.length j = 0 := by
  have hp : Vv m (pad n (G u)) := pad_v (hG u)
  have hdr := Dep.trans hm h.v hd h.spn
  have h2 := rd_diff (Q := Q) (pv := pv) hm hp n B.length
  refine piv_zero hm h ((hdr.add h2).congr (fun _ _ _ _ => rfl) fun j hj => ?_) fun l hl => rd_zero hm h hp B.length (Nat.le_refl _) l hl
  show G u j ^^^ (pad n (G u) j ^^^ _) = _
  rw [show pad n (G u) j = G u j by simp [pad, hj], ← Nat.xor_assoc, Nat.xor_self, Nat.zero_xor]

theorem rd_cof (h : Rdc m n G B pv Q) (hG : Vm m G) {u : Nat} (hz : ∀ j, j < n → rd m Q pv (pad n (G u)) B.length j = 0) : ∀ j, j < n → G u j = cb m B.length (sel G B) (fun k => rd m Q pv (pad n (G u)) B.length (n + k)) j := fun j hj => by
  have := rd_com hm h hG (u := u) B.length (Nat.le_refl _) j hj
  rw [hz j hj] at this
  exact xe this.symm

theorem rd_is (h : Rdc m n G B pv Q) (hG : Vm m G) {u : Nat} : (∀ j, j < n → rd m Q pv (pad n (G u)) B.length j = 0) ↔ Dep m n B.length (sel G B) (G u) :=
  ⟨fun hz => ⟨_, fun k => rd_v hm (pad_v (hG u)) _ _, rd_cof hm h hG hz⟩, rd_dep hm h hG⟩

/-- the row that a unit adds -/
def newR (m n : Nat) (x : Nat → Nat) (p c : Nat) : Nat → Nat := fun j => mul m (inv m (x c)) (if j = n + p then 1 else x j)

def addQ (Q : Mx) (p : Nat) (f : Nat → Nat) : Mx := fun i => if i = p then f else Q i

theorem newR_v (n : Nat) (x : Nat → Nat) (p c : Nat) : Vv m (newR m n x p c) := fun j => mul_lt hm _ (inv_lt hm _)

theorem rdc_add (h : Rdc m n G B pv Q) (hG : Vm m G) {u c : Nat} (hp : B.length < n) (hc : c < n) (h0 : rd m Q pv (pad n (G u)) B.length c ≠ 0) :
    Rdc m n G (B ++ [u]) (pv ++ [c]) (addQ Q B.length (newR m n (rd m Q pv (pad n (G u)) B.length) B.length c)) := by
  have hpd : Vv m (pad n (G u)) := pad_v (hG u)
  generalize hx : rd m Q pv (pad n (G u)) B.length = x at *
  have hxv : Vv m x := hx ▸ rd_v hm hpd _
  have hl : (B ++ [u]).length = B.length + 1 := by simp
  have hxz : ∀ l, l < B.length → x (pv.getD l 0) = 0 := fun l hl => by rw [← hx]; exact rd_zero hm h hpd B.length (Nat.le_refl _) l hl
  have hlt : ∀ i, i < B.length → (pv ++ [c]).getD i 0 = pv.getD i 0 := fun i hi => getD_snoc_lt (by rw [h.len]; exact hi)
  have heq : (pv ++ [c]).getD B.length 0 = c := getD_snoc_eq h.len.symm
  have hQo : ∀ i, i < B.length → addQ Q B.length (newR m n x B.length c) i = Q i := fun i hi => by unfold addQ; rw [if_neg (by omega)]
  have hQn : addQ Q B.length (newR m n x B.length c) B.length = newR m n x B.length c := by unfold addQ; rw [if_pos rfl]
  have hnl : ∀ j, j < n → newR m n x B.length c j = mul m (inv m (x c)) (x j) := fun j hj => by unfold newR; rw [if_neg (by omega)]
  have hQv : Vm m (addQ Q B.length (newR m n x B.length c)) := fun i j => by
    unfold addQ
    split
    · exact newR_v hm n x _ _ j
    · exact h.v i j
  have hsp : ∀ k, k < B.length → Dep m n (B.length + 1) (addQ Q B.length (newR m n x B.length c)) (sel G B k) := fun k hk =>
    ((h.spn k hk).congr (fun i hi j _ => by rw [hQo i hi]) fun _ _ => rfl).more
  refine ⟨by simp [h.len], fun i hi => ?_, fun i hi => ?_, fun i k hik hk => ?_, hQv, fun i hi j hj => ?_, fun i hi k hk1 hk2 => ?_, fun k hk => ?_⟩ <;> rw [hl] at *
  · by_cases e : i = B.length
    · rw [e, heq]; exact hc
    · rw [hlt i (by omega)]; exact h.pl i (by omega)
  · by_cases e : i = B.length
    · rw [e, heq, hQn, hnl c hc, mul_comm hm (inv_lt hm _) (hxv c), mul_inv hm (hxv c) h0]
    · rw [hlt i (by omega), hQo i (by omega)]; exact h.one i (by omega)
  · by_cases e : k = B.length
    · rw [e, hQn, hlt i (by omega), hnl _ (h.pl i (by omega)), hxz i (by omega), mul_zeroR]
    · rw [hQo k (by omega), hlt i (by omega)]; exact h.low i k hik (by omega)
  · by_cases e : i = B.length
    · subst e
      rw [hQn, hnl j hj]
      show _ = (sm B.length fun k => mul m (newR m n x B.length c (n + k)) (sel G (B ++ [u]) k j)) ^^^ mul m (newR m n x B.length c (n + B.length)) (sel G (B ++ [u]) B.length j)
      have e1 : x j = G u j ^^^ cb m B.length (sel G B) (fun k => x (n + k)) j := by
        rw [← hx]; exact rd_com hm h hG B.length (Nat.le_refl _) j hj
      have e2 : sel G (B ++ [u]) B.length j = G u j := by show G ((B ++ [u]).getD B.length 0) j = _; rw [getD_snoc_eq rfl]
      have e3 : newR m n x B.length c (n + B.length) = inv m (x c) := by unfold newR; rw [if_pos rfl, mul_oneR hm]
      rw [e2, e3, e1, mulR, Nat.xor_comm, ← cb_mul hm (fun k => hxv _) (fun i j => hG _ j) (inv_lt hm _)]
      congr 1
      refine sm_congr fun k hk => ?_
      rw [show newR m n x B.length c (n + k) = mul m (inv m (x c)) (x (n + k)) by unfold newR; rw [if_neg (by omega)], ← sel_snoc (G := G) B u k hk]
    · rw [hQo i (by omega), h.com i (by omega) j hj]
      show _ = (sm B.length fun k => mul m (Q i (n + k)) (sel G (B ++ [u]) k j)) ^^^ mul m (Q i (n + B.length)) (sel G (B ++ [u]) B.length j)
      rw [h.hi i (by omega) B.length (Nat.le_refl _) hp, mul_zeroL, Nat.xor_zero]
      exact sm_congr fun k hk => by rw [sel_snoc B u k hk]
  · by_cases e : i = B.length
    · rw [e, hQn]
      unfold newR
      rw [if_neg (by omega), ← hx, rd_hi h (G u) B.length (Nat.le_refl _) k (by omega) hk2, mul_zeroR]
    · rw [hQo i (by omega)]; exact h.hi i (by omega) k (by omega) hk2
  · by_cases e : k = B.length
    · subst e
      have e2 : sel G (B ++ [u]) B.length = G u := by show G ((B ++ [u]).getD B.length 0) = _; rw [getD_snoc_eq rfl]
      rw [e2]
      have h1 : Dep m n (B.length + 1) (addQ Q B.length (newR m n x B.length c)) fun j => pad n (G u) j ^^^ x j := by
        have := rd_diff (Q := Q) (pv := pv) hm hpd n B.length
        rw [hx] at this
        exact (this.congr (fun i hi j _ => by rw [hQo i hi]) fun _ _ => rfl).more
      have h2 : Dep m n (B.length + 1) (addQ Q B.length (newR m n x B.length c)) x := by
        refine ⟨fun k => if k = B.length then x c else 0, fun k => ?_, fun j hj => ?_⟩
        · show (if k = B.length then x c else 0) < 2 ^ m
          split; exact hxv c; exact Nat.two_pow_pos m
        · unfold cb
          rw [sm_one (Nat.lt_succ_self B.length)]
          · show x j = mul m (if B.length = B.length then x c else 0) _
            rw [if_pos rfl, hQn, hnl j hj, ← mul_assoc hm (hxv c) (inv_lt hm _) (hxv j), mul_inv hm (hxv c) h0, mul_oneL hm (hxv j)]
          · intro i _ hne; show mul m (if i = B.length then x c else 0) _ = 0; rw [if_neg hne, mul_zeroL]
      refine (h1.add h2).congr (fun _ _ _ _ => rfl) fun j hj => ?_
      show pad n (G u) j ^^^ x j ^^^ x j = _
      rw [Nat.xor_assoc, Nat.xor_self, Nat.xor_zero]; simp [pad, hj]
    · exact (hsp k (by omega)).congr (fun _ _ _ _ => rfl) fun j _ => by rw [sel_snoc B u k (by omega)]
end
end Go.Proofs.YtpjgmekpnlpjaaaDoor
