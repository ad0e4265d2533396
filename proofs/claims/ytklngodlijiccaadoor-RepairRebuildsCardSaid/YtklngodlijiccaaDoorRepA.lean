/-
  Repair as plain mathematics: checks, their terms, candidates, the plan.
-/
import Derived.Test.YtklngodlijiccaaDoorE10g
namespace Go.Proofs.YtklngodlijiccaaDoor
open Go.RowKit
set_option linter.unusedVariables false
set_option linter.unusedSimpArgs false

/-- The coefficient of unit k in check i. -/
def ckc (x : Cd) (i k : Nat) : Nat := if k < x.data.toNat then gC x (x.data.toNat + i) k else 1
/-- The check of parity unit i. -/
def chk (x : Cd) (i : Nat) : List Nat := ((List.range x.data.toNat).filter fun j => decide (gC x (x.data.toNat + i) j ≠ 0)) ++ [x.data.toNat + i]
/-- A list of units as a row of numbers. -/
abbrev nI (S : List Nat) : List Int := S.map fun i : Nat => (i : Int)
/-- Is u a unit of the list? -/
def hasZ (l : List Nat) (u : Int) : Bool := decide (u ∈ nI l)
def chks (x : Cd) (u : Int) (p : Nat) : List (List Nat) := ((List.range p).map (chk x)).filter fun l => hasZ l u
def chksR (x : Cd) (u : Int) : List (List Nat) := if vC x = true ∧ 0 ≤ u then chks x u x.par.length else []
/-- The terms of check i for its unit u. -/
def trC (x : Cd) (i u : Nat) : List (Nat × Nat) := ((chk x i).filter fun k => decide (k ≠ u)).map fun k => (k, mul x.field.toNat (ckc x i k) (inv x.field.toNat (ckc x i u)))
/-- Are the units of the first list lexicographically smaller? -/
def ltU : List (Nat × Nat) → List (Nat × Nat) → Bool
  | a :: r, b :: s => if a.1 ≠ b.1 then decide (a.1 < b.1) else ltU r s
  | _, _ => false
def bt (a b : List (Nat × Nat)) : Bool := if a.length ≠ b.length then decide (a.length < b.length) else ltU a b
/-- The present units other than u. -/
def ot (hs : List Bool) (u : Nat) : List Bool := hs.set u false
def avl (hs : List Bool) (u : Nat) (l : List Nat) : Bool := l.all fun k => (ot hs u).getD k false || decide (k = u)
def cand (x : Cd) (hs : List Bool) (u i : Nat) : Bool := hasZ (chk x i) (u : Int) && avl hs u (chk x i)
def stpP (x : Cd) (hs : List Bool) (u : Nat) (b : Option (List (Nat × Nat))) (i : Nat) : Option (List (Nat × Nat)) :=
  if cand x hs u i = true then (match b with | none => some (trC x i u) | some l => if bt (trC x i u) l = true then some (trC x i u) else some l) else b
noncomputable def bes0 (x : Cd) (hs : List Bool) (u : Nat) : Option (List (Nat × Nat)) := if (combR x (ot hs u) (u : Int)).2 = 0 then some (combR x (ot hs u) (u : Int)).1 else none
noncomputable def besK (x : Cd) (hs : List Bool) (u k : Nat) : Option (List (Nat × Nat)) := (List.range k).foldl (stpP x hs u) (bes0 x hs u)
/-- What Plan answers: the unit, the terms, the error. -/
noncomputable def planR (x : Cd) (hs : List Bool) (u : Int) : (Int × List (Nat × Nat)) × Int :=
  if okB x hs = true ∧ idxB hs u = true then (match besK x hs u.toNat x.par.length with | some l => ((u, l), 0) | none => ((0, []), 11)) else ((0, []), 1)

theorem ot_len (hs : List Bool) (u : Nat) : (ot hs u).length = hs.length := List.length_set
theorem ot_getD (hs : List Bool) (u k : Nat) : (ot hs u).getD k false = (hs.getD k false && decide (k ≠ u)) := by
  unfold ot
  rw [List.getD_eq_getElem?_getD, List.getD_eq_getElem?_getD, List.getElem?_set]
  by_cases h : u = k
  · subst h
    rw [if_pos rfl, show decide (u ≠ u) = false by simp, Bool.and_false]
    split <;> rfl
  · rw [if_neg h, decide_eq_true (show k ≠ u from fun e => h e.symm), Bool.and_true]
theorem ot_set (hs : List Bool) (u : Nat) (b : Bool) : ot (hs.set u b) u = ot hs u := by unfold ot; rw [List.set_set]
theorem hasZ_nat (l : List Nat) (u : Nat) : hasZ l (u : Int) = decide (u ∈ l) := by
  unfold hasZ
  rw [Bool.eq_iff_iff, decide_eq_true_eq, decide_eq_true_eq, List.mem_map]
  exact ⟨fun ⟨k, hk, e⟩ => by rwa [show u = k by omega], fun h => ⟨u, h, rfl⟩⟩
theorem besK_next (x : Cd) (hs : List Bool) (u k : Nat) : besK x hs u (k + 1) = stpP x hs u (besK x hs u k) k := by
  unfold besK
  rw [List.range_succ, List.foldl_append]; rfl
theorem planR_set (x : Cd) (hs : List Bool) (u : Nat) (b : Bool) : planR x (hs.set u b) (u : Int) = planR x hs (u : Int) := by
  have h1 : okB x (hs.set u b) = okB x hs := by unfold okB; rw [List.length_set]
  have h2 : idxB (hs.set u b) (u : Int) = idxB hs (u : Int) := by unfold idxB; rw [List.length_set]
  have h3 : bes0 x (hs.set u b) u = bes0 x hs u := by unfold bes0; rw [ot_set]
  have h4 : stpP x (hs.set u b) u = stpP x hs u := by
    funext c i
    unfold stpP cand avl
    rw [ot_set]
  unfold planR besK
  rw [h1, h2, Int.toNat_natCast, h3, h4]
def flt (G : Nat → Nat) (k : Nat) : List Nat := (List.range k).filter fun q => decide (G q ≠ 0)
theorem flt_next (G : Nat → Nat) (k : Nat) : flt G (k + 1) = if G k = 0 then flt G k else flt G k ++ [k] := by
  unfold flt
  rw [List.range_succ, List.filter_append]
  by_cases h : G k = 0
  · rw [if_pos h, List.filter_cons, if_neg (by simp [h])]; simp
  · rw [if_neg h, List.filter_cons, if_pos (decide_eq_true h)]; rfl
theorem flt_len (G : Nat → Nat) (k : Nat) : (flt G k).length ≤ k := by
  have := List.length_filter_le (fun q => decide (G q ≠ 0)) (List.range k)
  rwa [List.length_range] at this
theorem chk_flt {x : Cd} {m n : Nat} (h : VC x m n) (i : Nat) : chk x i = flt (gC x (n + i)) n ++ [n + i] := by unfold chk flt; rw [h.dn]
theorem xor0 {a b : Nat} (h : a ^^^ b = 0) : b = a := by
  have e : a ^^^ (a ^^^ b) = a ^^^ 0 := by rw [h]
  rwa [← Nat.xor_assoc, Nat.xor_self, Nat.zero_xor, Nat.xor_zero] at e
section
variable {x : Cd} {m n : Nat}
theorem mem_chk (h : VC x m n) {i k : Nat} : k ∈ chk x i ↔ (k < n ∧ gC x (n + i) k ≠ 0) ∨ k = n + i := by
  unfold chk
  rw [h.dn, List.mem_append, List.mem_filter, List.mem_range, decide_eq_true_eq, List.mem_singleton]
theorem chk_inc (h : VC x m n) (i : Nat) : (chk x i).Pairwise (· < ·) := by
  unfold chk
  rw [h.dn]
  refine List.pairwise_append.2 ⟨List.Pairwise.filter _ List.pairwise_lt_range, List.pairwise_singleton _ _, fun a ha b hb => ?_⟩
  rw [List.mem_singleton] at hb
  have := List.mem_range.1 (List.mem_filter.1 ha).1
  omega
theorem ckc_ne (h : VC x m n) {i k : Nat} (hk : k ∈ chk x i) : ckc x i k ≠ 0 ∧ ckc x i k < 2 ^ m := by
  unfold ckc
  rw [h.dn]
  rcases (mem_chk h).1 hk with ⟨h1, h2⟩ | h1
  · rw [if_pos h1]; exact ⟨h2, gC_v h _ _⟩
  · rw [if_neg (by omega)]; exact ⟨by decide, fm_one h.fm⟩
/-- What a candidate for unit u keeps. -/
structure GoodT (x : Cd) (m n : Nat) (hs : List Bool) (u : Nat) (L : List (Nat × Nat)) : Prop where
  mem : ∀ t ∈ L, t.1 < hs.length ∧ (ot hs u).getD t.1 false = true ∧ t.2 < 2 ^ m ∧ t.2 ≠ 0
  inc : L.Pairwise fun a b => a.1 < b.1
  sum : ∀ j, j < n → fsum m (gC x) L j = gC x u j
  len : L.length ≤ n
theorem fsum_fold (m : Nat) (G : Mx) (j : Nat) : ∀ (L : List (Nat × Nat)) (a : Nat), L.foldl (fun a t => a ^^^ mul m t.2 (G t.1 j)) a = a ^^^ fsum m G L j
  | [], a => by show a = a ^^^ 0; rw [Nat.xor_zero]
  | t :: L, a => by
    show L.foldl _ (a ^^^ mul m t.2 (G t.1 j)) = a ^^^ L.foldl _ (0 ^^^ mul m t.2 (G t.1 j))
    rw [fsum_fold m G j L, fsum_fold m G j L, Nat.zero_xor, Nat.xor_assoc]
theorem fsum_cons (m : Nat) (G : Mx) (t : Nat × Nat) (L : List (Nat × Nat)) (j : Nat) : fsum m G (t :: L) j = mul m t.2 (G t.1 j) ^^^ fsum m G L j := by
  show L.foldl _ (0 ^^^ mul m t.2 (G t.1 j)) = _
  rw [fsum_fold, Nat.zero_xor]
theorem fsum_app (m : Nat) (G : Mx) (A B : List (Nat × Nat)) (j : Nat) : fsum m G (A ++ B) j = fsum m G A j ^^^ fsum m G B j := by
  show (A ++ B).foldl _ 0 = _
  rw [List.foldl_append, fsum_fold]; rfl
/-- A sum over a list, by a filter and what the filter leaves out, once. -/
theorem fsum_out (m : Nat) (G : Mx) (f : Nat → Nat) (j u : Nat) : ∀ l : List Nat, l.Nodup → u ∈ l → fsum m G (l.map fun k => (k, f k)) j = mul m (f u) (G u j) ^^^ fsum m G ((l.filter fun k => decide (k ≠ u)).map fun k => (k, f k)) j
  | [], _, h => by cases h
  | k :: l, hn, h => by
    obtain ⟨hk, hn'⟩ := List.nodup_cons.1 hn
    rw [List.map_cons, fsum_cons]
    by_cases e : k = u
    · subst e
      rw [List.filter_cons, if_neg (by simp), List.filter_eq_self.2 (fun a ha => decide_eq_true (show a ≠ k from fun e => hk (e ▸ ha)))]
    · rw [List.filter_cons, if_pos (decide_eq_true e), List.map_cons, fsum_cons, fsum_out m G f j u l hn' ((List.mem_cons.1 h).resolve_left (fun q => e q.symm))]
      show _ ^^^ (_ ^^^ _) = _ ^^^ (_ ^^^ _)
      rw [← Nat.xor_assoc, ← Nat.xor_assoc, Nat.xor_comm (mul m (f k) (G k j))]
/-- The sum of all rows of a check, with its coefficients, is zero. -/
theorem chk_zero (h : VC x m n) (i : Nat) {j : Nat} (hj : j < n) : fsum m (gC x) ((chk x i).map fun k => (k, ckc x i k)) j = 0 := by
  have hg : ∀ k, k < n → gC x k j = if k = j then 1 else 0 := fun k hk => by unfold gC; rw [h.dn, if_pos hk]
  have key : ∀ p, p ≤ n → fsum m (gC x) ((flt (gC x (n + i)) p).map fun k => (k, ckc x i k)) j = if j < p then gC x (n + i) j else 0 := by
    intro p
    induction p with
    | zero => intro _; rfl
    | succ p ih =>
      intro hp
      have hc : ckc x i p = gC x (n + i) p := by unfold ckc; rw [h.dn, if_pos (by omega)]
      rw [flt_next]
      by_cases h0 : gC x (n + i) p = 0
      · rw [if_pos h0, ih (by omega)]
        by_cases hjp : j = p
        · subst hjp; rw [if_neg (by omega), if_pos (by omega), h0]
        · by_cases q : j < p
          · rw [if_pos q, if_pos (by omega)]
          · rw [if_neg q, if_neg (by omega)]
      · rw [if_neg h0, List.map_append, fsum_app, ih (by omega), List.map_cons, List.map_nil, fsum_cons]
        show _ ^^^ (mul m (ckc x i p) (gC x p j) ^^^ 0) = _
        rw [Nat.xor_zero, hg p (by omega), hc]
        by_cases hjp : j = p
        · subst hjp; rw [if_neg (by omega), if_pos rfl, if_pos (by omega), mul_oneR h.fm, Nat.zero_xor]
        · rw [if_neg (show ¬ p = j from fun e => hjp e.symm), mul_zeroR, Nat.xor_zero]
          by_cases q : j < p
          · rw [if_pos q, if_pos (by omega)]
          · rw [if_neg q, if_neg (by omega)]
  rw [chk_flt h, List.map_append, fsum_app, key n (Nat.le_refl _), if_pos hj, List.map_cons, List.map_nil, fsum_cons]
  have hc : ckc x i (n + i) = 1 := by unfold ckc; rw [h.dn, if_neg (by omega)]
  show _ ^^^ (mul m (ckc x i (n + i)) (gC x (n + i) j) ^^^ 0) = 0
  rw [hc, mul_oneL h.fm (gC_v h _ _), Nat.xor_zero, Nat.xor_self]
theorem fsum_mul (h : VC x m n) (f : Nat → Nat) (c j : Nat) (hc : c < 2 ^ m) : ∀ l : List Nat, (∀ k ∈ l, f k < 2 ^ m) → fsum m (gC x) (l.map fun k => (k, mul m (f k) c)) j = mul m (fsum m (gC x) (l.map fun k => (k, f k)) j) c
  | [], _ => by show 0 = mul m 0 c; rw [mul_zeroL]
  | k :: l, hf => by
    rw [List.map_cons, List.map_cons, fsum_cons, fsum_cons, fsum_mul h f c j hc l fun q hq => hf q (List.mem_cons_of_mem _ hq)]
    have e : ∀ a b, mul m (a ^^^ b) c = mul m a c ^^^ mul m b c := fun a b => mul_linL m c a b
    rw [e]
    show mul m (mul m (f k) c) (gC x k j) ^^^ _ = mul m (mul m (f k) (gC x k j)) c ^^^ _
    rw [mul_right]
/-- The terms of a check are a candidate. -/
theorem trC_good (h : VC x m n) {hs : List Bool} (hl : hs.length = n + x.par.length) {u i : Nat} (hi : i < x.par.length) (hc : cand x hs u i = true) : GoodT x m n hs u (trC x i u) := by
  unfold cand at hc
  rw [Bool.and_eq_true, hasZ_nat, decide_eq_true_eq] at hc
  obtain ⟨hu, ha⟩ := hc
  unfold avl at ha
  rw [List.all_eq_true] at ha
  have hnd : (chk x i).Nodup := (chk_inc h i).imp fun h => Nat.ne_of_lt h
  have hu2 := ckc_ne h hu
  unfold trC
  rw [h.fn]
  refine ⟨fun t ht => ?_, ?_, fun j hj => ?_, ?_⟩
  · obtain ⟨k, hk, rfl⟩ := List.mem_map.1 ht
    obtain ⟨hk1, hk2⟩ := List.mem_filter.1 hk
    have hk3 := of_decide_eq_true hk2
    have hk4 := ckc_ne h hk1
    refine ⟨?_, ?_, mul_lt h.fm _ hk4.2, mul_ne h.fm hk4.2 (inv_lt h.fm _) hk4.1 (fun q => ?_)⟩
    · rcases (mem_chk h).1 hk1 with ⟨q, _⟩ | q <;> omega
    · have := ha k hk1
      rw [decide_eq_false hk3, Bool.or_false] at this
      exact this
    · have := mul_inv h.fm hu2.2 hu2.1
      rw [q, mul_zeroR] at this
      cases this
  · exact List.pairwise_map.2 (List.Pairwise.filter _ (chk_inc h i))
  · have hz := chk_zero h i hj
    rw [fsum_out m (gC x) (ckc x i) j u _ hnd hu] at hz
    rw [fsum_mul h (ckc x i) _ j (inv_lt h.fm _) _ fun k hk => (ckc_ne h (List.mem_filter.1 hk).1).2, xor0 hz, mul_comm h.fm hu2.2 (gC_v h _ _), mul_back h.fm hu2.2 (gC_v h _ _) hu2.1]
  · have h1 : ((chk x i).filter fun k => decide (k ≠ u)).length < (chk x i).length := by
      refine List.length_filter_lt_length_iff_exists.2 ⟨u, hu, by simp⟩
    have h2 : (chk x i).length ≤ n + 1 := by
      unfold chk
      rw [h.dn, List.length_append]
      have := List.length_filter_le (fun j => decide (gC x (n + i) j ≠ 0)) (List.range n)
      rw [List.length_range] at this
      simp only [List.length_cons, List.length_nil]
      omega
    rw [List.length_map]
    omega
theorem comb_okB {hs : List Bool} {u : Int} (hok : okB x hs = true) (hi : idxB hs u = true) : combR x hs u = trmR x hs u.toNat := if_pos ⟨hok, hi⟩
theorem ot_ok (hs : List Bool) (u : Nat) : okB x (ot hs u) = okB x hs := by unfold okB; rw [ot_len]
theorem ot_idx (hs : List Bool) (u : Nat) (v : Int) : idxB (ot hs u) v = idxB hs v := by unfold idxB; rw [ot_len]
theorem bes0_rec {hs : List Bool} {u : Nat} (hok : okB x hs = true) (hu : u < hs.length) : (recov x (ot hs u) u → bes0 x hs u = some (tms (basL x (ot hs u)) (cofU x (ot hs u) u) (basL x (ot hs u)).length)) ∧ (¬ recov x (ot hs u) u → bes0 x hs u = none) := by
  have e : combR x (ot hs u) (u : Int) = trmR x (ot hs u) u := by
    rw [comb_okB (by rw [ot_ok]; exact hok) (by rw [ot_idx]; exact decide_eq_true (by omega)), Int.toNat_natCast]
  unfold bes0
  rw [e]
  unfold trmR
  exact ⟨fun h => by rw [if_pos h, if_pos rfl], fun h => by rw [if_neg h, if_neg (by decide)]⟩
theorem bes0_good (h : VC x m n) {hs : List Bool} {u : Nat} (hok : okB x hs = true) (hu : u < hs.length) {L : List (Nat × Nat)} (hL : bes0 x hs u = some L) : GoodT x m n hs u L := by
  have hb := bes0_rec hok hu
  by_cases hr : recov x (ot hs u) u
  · rw [hb.1 hr] at hL
    injection hL with hL
    subst hL
    obtain ⟨f1, f2, f3, _⟩ := coef_facts h hr
    refine ⟨fun t ht => ?_, f2, f3, ?_⟩
    · obtain ⟨a, b⟩ := f1 t ht
      exact ⟨by rwa [ot_len] at a, b⟩
    · have h1 := tms_len (basL x (ot hs u)) (cofU x (ot hs u) u) (basL x (ot hs u)).length
      have h2 : (basL x (ot hs u)).length ≤ n := by rw [basL_vc h]; exact bas_le (n := n) (hv := hvF (ot hs u)) h.fm (gC_v h) (ot hs u).length
      omega
  · rw [hb.2 hr] at hL; cases hL
theorem besK_good (h : VC x m n) {hs : List Bool} (hl : hs.length = n + x.par.length) {u : Nat} (hok : okB x hs = true) (hu : u < hs.length) : ∀ k, k ≤ x.par.length → ∀ L, besK x hs u k = some L → GoodT x m n hs u L
  | 0, _, L, hL => bes0_good h hok hu hL
  | k + 1, hk, L, hL => by
    rw [besK_next] at hL
    unfold stpP at hL
    by_cases hc : cand x hs u k = true
    · rw [if_pos hc] at hL
      have hg := trC_good h hl (show k < x.par.length by omega) hc
      cases hb : besK x hs u k with
      | none => rw [hb] at hL; injection hL with hL; exact hL ▸ hg
      | some b =>
        rw [hb] at hL
        dsimp only at hL
        split at hL
        · injection hL with hL; exact hL ▸ hg
        · injection hL with hL; subst hL; exact besK_good h hl hok hu k (by omega) _ hb
    · rw [if_neg hc] at hL
      exact besK_good h hl hok hu k (by omega) L hL
/-- A unit with a candidate is recoverable. -/
theorem good_rec (h : VC x m n) {hs : List Bool} {u : Nat} {L : List (Nat × Nat)} (hg : GoodT x m n hs u L) : recov x (ot hs u) u := by
  rw [recov_vc h, basL_vc h]
  have hG := gC_v h
  have key : ∀ L : List (Nat × Nat), (∀ t ∈ L, t.1 < hs.length ∧ (ot hs u).getD t.1 false = true ∧ t.2 < 2 ^ m ∧ t.2 ≠ 0) → Dep m n (bas m n (gC x) (hvF (ot hs u)) (ot hs u).length).length (sel (gC x) (bas m n (gC x) (hvF (ot hs u)) (ot hs u).length)) (fsum m (gC x) L) := by
    intro L
    induction L with
    | nil => intro _; exact ⟨fun _ => 0, vv_zero m, fun j _ => (cb_zero m _ _ _ (fun _ _ => rfl) j).symm⟩
    | cons t L ih =>
      intro ht
      obtain ⟨t1, t2, t3, _⟩ := ht t List.mem_cons_self
      have h1 := bas_span h.fm hG (n := n) (hv := hvF (ot hs u)) (ot hs u).length t.1 (by rw [ot_len]; exact t1) t2
      obtain ⟨c, hc, he⟩ := h1
      have h2 : Dep m n (bas m n (gC x) (hvF (ot hs u)) (ot hs u).length).length (sel (gC x) (bas m n (gC x) (hvF (ot hs u)) (ot hs u).length)) (fun j => mul m t.2 (gC x t.1 j)) :=
        ⟨fun k => mul m t.2 (c k), fun k => mul_lt h.fm _ t3, fun j hj => by rw [cb_mul h.fm hc (fun i j => hG _ j) t3, ← he j hj]⟩
      exact (Dep.add h2 (ih fun q hq => ht q (List.mem_cons_of_mem _ hq))).congr (fun _ _ _ _ => rfl) fun j _ => (fsum_cons m (gC x) t L j).symm
  exact (key L hg.mem).congr (fun _ _ _ _ => rfl) hg.sum
theorem besK_some {hs : List Bool} {u : Nat} : ∀ k, (bes0 x hs u).isSome = true → (besK x hs u k).isSome = true
  | 0, h => h
  | k + 1, h => by
    have := besK_some k h
    rw [besK_next]
    unfold stpP
    split
    · split
      · rfl
      · split <;> rfl
    · exact this
theorem besK_iff (h : VC x m n) {hs : List Bool} (hl : hs.length = n + x.par.length) {u : Nat} (hok : okB x hs = true) (hu : u < hs.length) : (besK x hs u x.par.length).isSome = true ↔ recov x (ot hs u) u := by
  constructor
  · intro hb
    obtain ⟨L, hL⟩ := Option.isSome_iff_exists.1 hb
    exact good_rec h (besK_good h hl hok hu _ (Nat.le_refl _) L hL)
  · intro hr
    exact besK_some _ (by rw [(bes0_rec hok hu).1 hr]; rfl)
theorem bt_le {a b : List (Nat × Nat)} (h : bt a b = true) : a.length ≤ b.length := by
  unfold bt at h
  split at h
  · exact Nat.le_of_lt (of_decide_eq_true h)
  · omega
theorem bt_no {a b : List (Nat × Nat)} (h : ¬ bt a b = true) : b.length ≤ a.length := by
  unfold bt at h
  split at h
  · exact Nat.not_lt.1 fun q => h (decide_eq_true q)
  · omega
theorem besK_cand {hs : List Bool} {u : Nat} : ∀ k i, i < k → cand x hs u i = true → ¬ besK x hs u k = none
  | 0, i, hi, _ => by omega
  | k + 1, i, hi, hc => by
    rw [besK_next]
    unfold stpP
    by_cases hk : cand x hs u k = true
    · rw [if_pos hk]
      split
      · exact fun h => by cases h
      · split <;> exact fun h => by cases h
    · rw [if_neg hk]
      by_cases e : i = k
      · rw [e] at hc; exact absurd hc hk
      · exact besK_cand k i (by omega) hc
/-- No candidate has fewer terms. -/
theorem besK_min {hs : List Bool} {u : Nat} : ∀ k L, besK x hs u k = some L → (∀ B, bes0 x hs u = some B → L.length ≤ B.length) ∧ ∀ i, i < k → cand x hs u i = true → L.length ≤ (trC x i u).length
  | 0, L, hL => ⟨fun B hB => by rw [show besK x hs u 0 = bes0 x hs u from rfl, hB] at hL; injection hL with hL; rw [hL]; exact Nat.le_refl _, fun i hi => by omega⟩
  | k + 1, L, hL => by
    have hs0 := fun h => besK_some (x := x) (hs := hs) (u := u) k h
    have ih := besK_min (hs := hs) (u := u) k
    rw [besK_next] at hL
    unfold stpP at hL
    by_cases hc : cand x hs u k = true
    · rw [if_pos hc] at hL
      cases hb : besK x hs u k with
      | none =>
        rw [hb] at hL
        injection hL with hL
        subst hL
        have hn : bes0 x hs u = none := by
          cases h0 : bes0 x hs u with
          | none => rfl
          | some B => have := hs0 (by rw [h0]; rfl); rw [hb] at this; cases this
        refine ⟨fun B hB => (by rw [hn] at hB; cases hB), fun i hi hci => ?_⟩
        by_cases e : i = k
        · rw [e]; exact Nat.le_refl _
        · exact absurd hb (besK_cand k i (by omega) hci)
      | some b =>
        rw [hb] at hL
        obtain ⟨q1, q2⟩ := ih b hb
        dsimp only at hL
        split at hL
        · next hbt =>
          injection hL with hL
          subst hL
          have := bt_le hbt
          refine ⟨fun B hB => Nat.le_trans this (q1 B hB), fun i hi hci => ?_⟩
          by_cases e : i = k
          · rw [e]; exact Nat.le_refl _
          · exact Nat.le_trans this (q2 i (by omega) hci)
        · next hbt =>
          injection hL with hL
          subst hL
          have := bt_no hbt
          refine ⟨q1, fun i hi hci => ?_⟩
          by_cases e : i = k
          · rw [e]; exact this
          · exact q2 i (by omega) hci
    · rw [if_neg hc] at hL
      obtain ⟨q1, q2⟩ := ih L hL
      refine ⟨q1, fun i hi hci => ?_⟩
      by_cases e : i = k
      · rw [e] at hci; exact absurd hci hc
      · exact q2 i (by omega) hci
theorem trC_len (h : VC x m n) {i u : Nat} (hu : u ∈ chk x i) : (trC x i u).length + 1 = (chk x i).length := by
  have hnd : (chk x i).Nodup := (chk_inc h i).imp fun h => Nat.ne_of_lt h
  unfold trC
  rw [List.length_map]
  have h1 : ((chk x i).filter fun k => decide (k ≠ u)) = (chk x i).erase u := by
    rw [hnd.erase_eq_filter]
    exact List.filter_congr fun k _ => by by_cases e : k = u <;> simp [e]
  rw [h1, List.length_erase_of_mem hu]
  have := List.length_pos_of_mem hu
  omega
theorem good_pos (h : VC x m n) {hs : List Bool} (hl : hs.length = n + x.par.length) {u : Nat} (hu : u < hs.length) {L : List (Nat × Nat)} (hg : GoodT x m n hs u L) : 0 < L.length := by
  refine List.length_pos_iff.2 ?_
  rintro rfl
  obtain ⟨j, hj, h0⟩ := row_some h (u := u) (by omega)
  exact h0 (hg.sum j hj).symm
/-- The sum of a candidate's terms is the unit. -/
theorem sum_good (h : VC x m n) {us : List (List UInt8)} (hn : us.length = n) (hal : alk m us = true) {hs : List Bool} (hl : hs.length = n + x.par.length) {units : List (List UInt8)} {u : Nat} (hu : u < hs.length) {L : List (Nat × Nat)} (hg : GoodT x m n hs u L)
    (hp : ∀ t ∈ L, units.getD t.1 [] = (us ++ x.par.map (fun r => cbS x.field r us)).getD t.1 []) :
    sumR x.field L units = (us ++ x.par.map (fun r => cbS x.field r us)).getD u [] ∧ Gd (m : Int) (L.map fun t => (t.2 : Int)) (L.map fun t => units.getD t.1 []) := by
  have hA := (alk_iff8 m us).1 hal
  have hpos := h.pos
  have hsz : ul us % (m / 8) = 0 := by
    have h1 := hA us[0] (List.getElem_mem (by omega))
    rw [← h1.1]; exact h1.2
  have hd : ∀ k, k < n → ((fun j => us.getD j []) k).length = ul us := fun k hk => by
    show (us.getD k []).length = _
    rw [show us.getD k [] = us[k] by simp [List.getD_eq_getElem?_getD, show k < us.length by omega]]
    exact (hA _ (List.getElem_mem _)).1
  rw [enc_unit h hn hal (by omega)]
  have hL0 := good_pos h hl hu hg
  have hun : ∀ t ∈ L, units.getD t.1 [] = lc m (ul us) (gC x t.1) (fun j => us.getD j []) n := fun t ht => by
    rw [hp t ht, enc_unit h hn hal (by have := (hg.mem t ht).1; omega)]
  have hln : ∀ t ∈ L, (units.getD t.1 []).length = ul us := fun t ht => by rw [hun t ht, lc_len h.fm hsz hd _ n (Nat.le_refl _)]
  have hulL : ul (L.map fun t => units.getD t.1 []) = ul us := by
    rw [← ul_zero _ (by rw [List.length_map]; exact hL0), List.getElem_map]
    exact hln _ (List.getElem_mem _)
  have hgd : Gd (m : Int) (L.map fun t => (t.2 : Int)) (L.map fun t => units.getD t.1 []) := by
    refine ⟨by rw [List.length_map]; exact hL0, by rw [List.length_map, List.length_map], fun c hc => ?_, fun v hv => ?_, by rw [hulL, Int.toNat_natCast]; exact hsz⟩
    · obtain ⟨t, ht, rfl⟩ := List.mem_map.1 hc
      exact vd_true h.fm (hg.mem t ht).2.2.1
    · obtain ⟨t, ht, rfl⟩ := List.mem_map.1 hv
      rw [hulL]; exact hln t ht
  refine ⟨?_, hgd⟩
  unfold sumR
  rw [h.f, cbS_is hgd, hulL, List.map_map]
  have e1 : (List.map (Int.toNat ∘ fun t : Nat × Nat => (t.2 : Int)) L).zip (L.map fun t => units.getD t.1 []) = L.map fun t => (t.2, lc m (ul us) (gC x t.1) (fun j => us.getD j []) n) := by
    rw [List.zip_map']
    exact List.map_congr_left fun t ht => by rw [hun t ht]; rfl
  rw [e1, ← lc_none h.fm hsz hd n (Nat.le_refl _), lc_sum h.fm hsz hd (gC x) (fun i j => gC_v h i j) L _ fun t ht => (hg.mem t ht).2.2.1]
  exact lc_congr hg.sum n (Nat.le_refl _)
end
end Go.Proofs.YtklngodlijiccaaDoor
