/-
  Solutions and inverses, computed; the examples of the law's check.
  What the laws of matrices say of the answers; plain.
-/
import Derived.Test.YtodmcojcmihooaaDoorRefSm
namespace Go.Proofs.YtodmcojcmihooaaDoor
open Go.RowKit
set_option linter.unusedVariables false

def solC (m R C C2 : Nat) (s : Mx × List Nat) : Mt × Int :=
  if ((List.range R).any fun i => decide (s.2.length ≤ i) && (List.range (C + C2)).any fun j => s.1 i j != 0) = true then (zeroM, 12) else (mkM m C C2 (solK s.2 s.1 C s.2.length), 0)
theorem solF_eq (m R C C2 : Nat) (s : Mx × List Nat) : solF m R C C2 s = solC m R C C2 s := by
  unfold solF solC
  by_cases h : ∃ i, s.2.length ≤ i ∧ i < R ∧ ∃ j, j < C + C2 ∧ s.1 i j ≠ 0
  · rw [if_pos h, if_pos]
    obtain ⟨i, h1, h2, j, h3, h4⟩ := h
    rw [List.any_eq_true]
    refine ⟨i, List.mem_range.2 h2, ?_⟩
    rw [Bool.and_eq_true]
    refine ⟨decide_eq_true h1, ?_⟩
    rw [List.any_eq_true]
    exact ⟨j, List.mem_range.2 h3, by simpa using h4⟩
  · rw [if_neg h, if_neg]
    intro q
    rw [List.any_eq_true] at q
    obtain ⟨i, h2, q⟩ := q
    rw [Bool.and_eq_true] at q
    obtain ⟨h1, q⟩ := q
    rw [List.any_eq_true] at q
    obtain ⟨j, h3, h4⟩ := q
    exact h ⟨i, of_decide_eq_true h1, List.mem_range.1 h2, j, List.mem_range.1 h3, by simpa using h4⟩
def solveC (a b : Mt) : Mt × Int :=
  if vM a = true ∧ vM b = true ∧ a.F = b.F ∧ a.R = b.R then solC a.F.toNat a.R.toNat a.C.toNat b.C.toNat (red a.F.toNat a.R.toNat (sideM a.C.toNat a.e b.e) a.C.toNat) else (zeroM, 1)
theorem solveM_eq (a b : Mt) : solveM a b = solveC a b := by
  unfold solveM solveC
  rw [solF_eq]
def invC (a : Mt) : Mt × Int :=
  if vM a = true ∧ a.R = a.C then (if (solveC a (idM a.F a.R).1).2 = 0 then ((solveC a (idM a.F a.R).1).1, 0) else (zeroM, 10)) else (zeroM, 1)
theorem invM_eq (a : Mt) : invM a = invC a := by
  unfold invM invC
  rw [solveM_eq]

theorem q_mul : mulM ⟨8, 2, 2, [1, 2, 3, 4]⟩ ⟨8, 2, 1, [5, 6]⟩ = (⟨8, 2, 1, [9, 23]⟩, 0) := by kernel_rfl
theorem q_rank : rankM ⟨8, 2, 2, [1, 2, 2, 4]⟩ = 1 := by kernel_rfl
theorem q_ind : indM ⟨8, 4, 2, [0, 0, 1, 1, 2, 2, 0, 3]⟩ = [1, 3] := by kernel_rfl
theorem q_v : vM ⟨8, 2, 2, [1, 2, 3, 4]⟩ = true := by kernel_rfl
theorem q_v0 : vM ⟨8, 2, 2, []⟩ = false := by kernel_rfl
theorem q_at : atM ⟨8, 2, 2, [1, 2, 3, 4]⟩ 1 0 = 3 := by kernel_rfl
theorem q_sol : solveM ⟨8, 1, 2, [1, 1]⟩ ⟨8, 1, 1, [7]⟩ = (⟨8, 2, 1, [7, 0]⟩, 0) := by rw [solveM_eq]; kernel_rfl
theorem q_sol0 : solveM ⟨8, 2, 1, [1, 1]⟩ ⟨8, 2, 1, [1, 2]⟩ = (zeroM, 12) := by rw [solveM_eq]; kernel_rfl
theorem q_inv0 : invM ⟨8, 2, 2, [1, 1, 1, 1]⟩ = (zeroM, 10) := by rw [invM_eq]; kernel_rfl
theorem q_inv : invM ⟨8, 2, 2, [1, 1, 0, 1]⟩ = (⟨8, 2, 2, [1, 1, 0, 1]⟩, 0) := by rw [invM_eq]; kernel_rfl

/-- The parts of a valid matrix. -/
theorem vM_parts {a : Mt} (h : vM a = true) : ∃ m R C : Nat, Fm m ∧ R ≤ 32 ∧ C ≤ 32 ∧ Vm m a.e ∧ a = mkM m R C a.e ∧ a.F = (m : Int) ∧ a.R = (R : Int) ∧ a.C = (C : Int) ∧ a.F.toNat = m ∧ a.R.toNat = R ∧ a.C.toNat = C := by
  obtain ⟨m, R, C, h1, h2, h3, h4, h5⟩ := vM_is h
  have e1 : a.F = (m : Int) := by rw [h5]; rfl
  have e2 : a.R = (R : Int) := by rw [h5]; rfl
  have e3 : a.C = (C : Int) := by rw [h5]; rfl
  exact ⟨m, R, C, h1, h2, h3, h4, h5, e1, e2, e3, by omega, by omega, by omega⟩
theorem mk_lenle {m R C : Nat} {E : Mx} (hR : R ≤ 32) (hC : C ≤ 32) : (mkM m R C E).l.length ≤ 1024 := by
  rw [mk_len]; exact Nat.mul_le_mul hR hC
theorem vM_len {a : Mt} (h : vM a = true) : a.l.length ≤ 1024 := by
  obtain ⟨m, R, C, h1, h2, h3, h4, h5, _⟩ := vM_parts h
  rw [h5]; exact mk_lenle h2 h3
theorem idM_len (m n : Int) : (idM m n).1.l.length ≤ 1024 := by
  unfold idM
  split
  · rename_i h
    obtain ⟨k, hk, hk2⟩ := isz_spec h.2
    exact mk_lenle (by omega) (by omega)
  · exact Nat.zero_le _
theorem mulM_len (a b : Mt) : (mulM a b).1.l.length ≤ 1024 := by
  unfold mulM
  split
  · rename_i h
    obtain ⟨m, R, C, h1, h2, h3, h4, h5, e1, e2, e3, f1, f2, f3⟩ := vM_parts h.1
    obtain ⟨m', R', C', g1, g2, g3, g4, g5, g6, g7, g8, g9, g10, g11⟩ := vM_parts h.2.1
    exact mk_lenle (by omega) (by omega)
  · exact Nat.zero_le _
theorem trM_len (a : Mt) : (trM a).1.l.length ≤ 1024 := by
  unfold trM
  split
  · rename_i h
    obtain ⟨m, R, C, h1, h2, h3, h4, h5, e1, e2, e3, f1, f2, f3⟩ := vM_parts h
    exact mk_lenle (by omega) (by omega)
  · exact Nat.zero_le _
theorem pickM_len (a : Mt) (rows : List Int) : (pickM a rows).1.l.length ≤ 1024 := by
  unfold pickM
  split
  · rename_i h
    obtain ⟨m, R, C, h1, h2, h3, h4, h5, e1, e2, e3, f1, f2, f3⟩ := vM_parts h.1
    exact mk_lenle (by omega) (by omega)
  · exact Nat.zero_le _
theorem solveM_len (a b : Mt) : (solveM a b).1.l.length ≤ 1024 := by
  unfold solveM
  split
  · rename_i h
    obtain ⟨m, R, C, h1, h2, h3, h4, h5, e1, e2, e3, f1, f2, f3⟩ := vM_parts h.1
    obtain ⟨m', R', C', g1, g2, g3, g4, g5, g6, g7, g8, g9, g10, g11⟩ := vM_parts h.2.1
    unfold solF
    split
    · exact Nat.zero_le _
    · exact mk_lenle (by omega) (by omega)
  · exact Nat.zero_le _
theorem invM_len (a : Mt) : (invM a).1.l.length ≤ 1024 := by
  unfold invM
  split
  · split
    · exact solveM_len _ _
    · exact Nat.zero_le _
  · exact Nat.zero_le _
theorem indM_len (a : Mt) : (indM a).length ≤ 32 := by
  unfold indM
  split
  · rename_i h
    obtain ⟨m, R, C, h1, h2, h3, h4, h5, e1, e2, e3, f1, f2, f3⟩ := vM_parts h
    rw [pvL_len]
    have := (red_rd (m := m) h1 a.C.toNat (A := tr a.e) (fun i j => h4 j i) a.R.toNat).len
    rw [f1]
    omega
  · exact Nat.zero_le _
/-- The product of two matrices, in parts. -/
theorem mul_mk {m R C C2 : Nat} {E E2 : Mx} (hm : Fm m) (hE : Vm m E) (hE2 : Vm m E2) (hR : R ≤ 32) (hC : C ≤ 32) (hC2 : C2 ≤ 32) : mulM (mkM m R C E) (mkM m C C2 E2) = (mkM m R C2 (mm m C E E2), 0) := by
  unfold mulM
  rw [if_pos ⟨vM_mk hm hR hC (fun i j _ _ => hE i j), vM_mk hm hC hC2 (fun i j _ _ => hE2 i j), rfl, rfl⟩]
  show (mkM ((m : Int)).toNat ((R : Int)).toNat ((C2 : Int)).toNat (mm ((m : Int)).toNat ((C : Int)).toNat (mkM m R C E).e (mkM m C C2 E2).e), (0 : Int)) = _
  rw [Int.toNat_natCast, Int.toNat_natCast, Int.toNat_natCast, Int.toNat_natCast]
  rw [mkM_congr (fun i j hi hj => mm_congr (fun k hk => mkM_e hi hk) (fun k hk => mkM_e hk hj))]
/-- Of a product that exists, the factors' parts. -/
theorem mul_parts {a b p : Mt} (h : mulM a b = (p, 0)) : ∃ m R C C2 : Nat, ∃ E E2 : Mx, Fm m ∧ R ≤ 32 ∧ C ≤ 32 ∧ C2 ≤ 32 ∧ Vm m E ∧ Vm m E2 ∧ a = mkM m R C E ∧ b = mkM m C C2 E2 ∧ p = mkM m R C2 (mm m C E E2) := by
  by_cases hc : vM a = true ∧ vM b = true ∧ a.F = b.F ∧ a.C = b.R
  · obtain ⟨m, R, C, h1, h2, h3, h4, h5, e1, e2, e3, f1, f2, f3⟩ := vM_parts hc.1
    obtain ⟨m', R', C', g1, g2, g3, g4, g5, g6, g7, g8, g9, g10, g11⟩ := vM_parts hc.2.1
    have q1 : m' = m := by have := hc.2.2.1; omega
    have q2 : R' = C := by have := hc.2.2.2; omega
    subst q1 q2
    refine ⟨m', R, R', C', a.e, b.e, h1, h2, g2, g3, h4, g4, h5, g5, ?_⟩
    rw [h5, g5, mul_mk h1 h4 g4 h2 g2 g3] at h
    injection h with h _
    exact h.symm
  · unfold mulM at h
    rw [if_neg hc] at h
    injection h with _ h
    cases h
theorem tr_mk {m R C : Nat} {E : Mx} (hm : Fm m) (hE : Vm m E) (hR : R ≤ 32) (hC : C ≤ 32) : trM (mkM m R C E) = (mkM m C R (tr E), 0) := by
  unfold trM
  rw [if_pos (vM_mk hm hR hC (fun i j _ _ => hE i j))]
  show (mkM ((m : Int)).toNat ((C : Int)).toNat ((R : Int)).toNat (tr (mkM m R C E).e), (0 : Int)) = _
  rw [Int.toNat_natCast, Int.toNat_natCast, Int.toNat_natCast]
  rw [mkM_congr (A := tr (mkM m R C E).e) (B := tr E) (fun i j hi hj => show (mkM m R C E).e j i = E j i from mkM_e hj hi)]
theorem tr_v {m : Nat} {E : Mx} (hE : Vm m E) : Vm m (tr E) := fun i j => hE j i

/-- Multiplying by the identity changes nothing. -/
theorem id_mul {a : Mt} (h : vM a = true) : mulM (idM a.F a.R).1 a = (a, 0) := by
  obtain ⟨m, R, C, h1, h2, h3, h4, h5, e1, e2, e3, f1, f2, f3⟩ := vM_parts h
  rw [e1, e2, idM_is h1 h2]
  show mulM (mkM m R R idm) a = _
  conv => lhs; rw [h5]
  rw [mul_mk h1 (idm_v h1) h4 h2 h2 h3]
  rw [mkM_congr (fun i j hi hj => mm_idl h1 h4 j hi), ← h5]
theorem mul_assoc6 {a b c ab bc : Mt} (h1 : mulM a b = (ab, 0)) (h2 : mulM b c = (bc, 0)) : ∃ l, mulM ab c = (l, 0) ∧ mulM a bc = (l, 0) := by
  obtain ⟨m, R, C, C2, E, E2, hm, q1, q2, q3, v1, v2, rfl, rfl, rfl⟩ := mul_parts h1
  obtain ⟨m', R', C', C3, E2', E3, hm', q1', q2', q3', v1', v2', e1, rfl, rfl⟩ := mul_parts h2
  have x1 : m' = m := by have : (m : Int) = (m' : Int) := congrArg Mt.F e1; omega
  have x2 : R' = C := by have : (C : Int) = (R' : Int) := congrArg Mt.R e1; omega
  have x3 : C' = C2 := by have : (C2 : Int) = (C' : Int) := congrArg Mt.C e1; omega
  subst x1 x2 x3
  have hee : ∀ i j, i < R' → j < C' → E2' i j = E2 i j := fun i j hi hj => by
    rw [← mkM_e (m := m') (A := E2') hi hj, ← e1, mkM_e hi hj]
  refine ⟨mkM m' R C3 (mm m' C' (mm m' R' E E2) E3), mul_mk hm (mm_v hm v1) v2' q1 q3 q3', ?_⟩
  rw [mul_mk hm v1 (mm_v hm v1') q1 q2 q3']
  rw [mkM_congr (fun i j hi hj => ?_)]
  rw [mm_assoc hm v1 v2 v2']
  exact mm_congr (fun _ _ => rfl) (fun k hk => mm_congr (fun l hl => hee k l hk hl) (fun _ _ => rfl))
theorem mul_tr6 {a b ab : Mt} (h : mulM a b = (ab, 0)) : ∃ s, trM ab = (s, 0) ∧ mulM (trM b).1 (trM a).1 = (s, 0) := by
  obtain ⟨m, R, C, C2, E, E2, hm, q1, q2, q3, v1, v2, rfl, rfl, rfl⟩ := mul_parts h
  refine ⟨_, tr_mk hm (mm_v hm v1) q1 q3, ?_⟩
  rw [tr_mk hm v2 q2 q3, tr_mk hm v1 q1 q2]
  show mulM (mkM m C2 C (tr E2)) (mkM m C R (tr E)) = _
  rw [mul_mk hm (tr_v v2) (tr_v v1) q3 q2 q1]
  rw [mkM_congr (fun i j hi hj => (mm_tr hm v1 v2 i j).symm)]
/-- Of picked rows that exist, the parts. -/
theorem pick_mk {m R C : Nat} {E : Mx} (hm : Fm m) (hE : Vm m E) (hR : R ≤ 32) (hC : C ≤ 32) {rows : List Int} (hn : rows.length ≤ 32) (hr : ∀ x ∈ rows, 0 ≤ x ∧ x < (R : Int)) : pickM (mkM m R C E) rows = (mkM m rows.length C (fun i j => E (rows.getD i 0).toNat j), 0) := by
  unfold pickM
  rw [if_pos ⟨vM_mk hm hR hC (fun i j _ _ => hE i j), hn, hr⟩]
  show (mkM ((m : Int)).toNat rows.length ((C : Int)).toNat (fun i j => (mkM m R C E).e (rows.getD i 0).toNat j), (0 : Int)) = _
  rw [Int.toNat_natCast, Int.toNat_natCast]
  rw [mkM_congr (fun i j hi hj => ?_)]
  have hx := hr (rows.getD i 0) (by rw [getD_in6 hi]; exact List.getElem_mem hi)
  exact mkM_e (by omega) hj
theorem pick_good {a q : Mt} {rows : List Int} (h : pickM a rows = (q, 0)) : vM a = true ∧ rows.length ≤ 32 ∧ ∀ x ∈ rows, 0 ≤ x ∧ x < a.R := by
  refine Classical.byContradiction fun hn => ?_
  unfold pickM at h
  rw [if_neg hn] at h
  injection h with _ h
  cases h
/-- Picking rows of a product is multiplying the picked rows. -/
theorem pick_mul {a b p q : Mt} {rows : List Int} (h1 : mulM a b = (p, 0)) (h2 : pickM a rows = (q, 0)) : ∃ x, pickM p rows = (x, 0) ∧ mulM q b = (x, 0) := by
  obtain ⟨m, R, C, C2, E, E2, hm, q1, q2, q3, v1, v2, rfl, rfl, rfl⟩ := mul_parts h1
  obtain ⟨_, hn, hr⟩ := pick_good h2
  have hr : ∀ x ∈ rows, 0 ≤ x ∧ x < (R : Int) := hr
  rw [pick_mk hm v1 q1 q2 hn hr] at h2
  injection h2 with h2 _
  refine ⟨_, pick_mk hm (mm_v hm v1) q1 q3 hn hr, ?_⟩
  rw [← h2, mul_mk hm (fun i j => v1 _ j) v2 hn q2 q3]
  rfl
/-- The ranks. -/
theorem rankM_is {m R C : Nat} {E : Mx} (hm : Fm m) (hE : Vm m E) (hR : R ≤ 32) (hC : C ≤ 32) : rankM (mkM m R C E) = ((rk m R C E : Nat) : Int) := rankM_mk hm hE (vM_mk hm hR hC (fun i j _ _ => hE i j))
theorem rank_tr6 {a : Mt} (h : vM a = true) : (trM a).2 = 0 ∧ rankM (trM a).1 = rankM a := by
  obtain ⟨m, R, C, h1, h2, h3, h4, h5, _⟩ := vM_parts h
  rw [h5, tr_mk h1 h4 h2 h3]
  refine ⟨rfl, ?_⟩
  show rankM (mkM m C R (tr a.e)) = _
  rw [rankM_is h1 (tr_v h4) h3 h2, rankM_is h1 h4 h2 h3, rk_tr h1 R C h4]
theorem rank_mul6 {a b q : Mt} (h : mulM a b = (q, 0)) : rankM q ≤ rankM a ∧ rankM q ≤ rankM b := by
  obtain ⟨m, R, C, C2, E, E2, hm, q1, q2, q3, v1, v2, rfl, rfl, rfl⟩ := mul_parts h
  rw [rankM_is hm (mm_v hm v1) q1 q3, rankM_is hm v1 q1 q2, rankM_is hm v2 q2 q3]
  have h1 := rk_mul_l hm (R := R) (n := C) (C := C2) v1 v2 (mm_v hm (n := C) (B := E2) v1) (fun i j _ _ => rfl)
  have h2 := rk_mul_r hm (R := R) (n := C) (C := C2) v1 v2 (mm_v hm (n := C) (B := E2) v1) (fun i j _ _ => rfl)
  exact ⟨by omega, by omega⟩
theorem rank_ind6 {a : Mt} (h : vM a = true) : ((indM a).length : Int) = rankM a ∧ (pickM a (indM a)).2 = 0 ∧ rankM (pickM a (indM a)).1 = rankM a := by
  have hlen : ((indM a).length : Int) = rankM a := by unfold rankM; rw [if_pos h]
  obtain ⟨m, R, C, h1, h2, h3, h4, h5, _⟩ := vM_parts h
  generalize a.e = E at h4 h5
  subst h5
  have hi := indM_mk h (E := E) (fun i j hi hj => mkM_e hi hj)
  have H := red_rd h1 C (A := tr E) (tr_v h4) R
  have hfac := fun i j (hi : i < C) (hj : j < R) => red_factor h1 (R := C) (A := tr E) (tr_v h4) (c := R) hi hj
  have hrk : rk m C R (tr E) = (red m C (tr E) R).2.length := rfl
  have htr := rk_tr h1 R C h4
  generalize (red m C (tr E) R).1 = M at H hfac
  generalize (red m C (tr E) R).2 = pv at H hfac hi hrk
  have hl : (indM (mkM m R C E)).length = pv.length := by rw [hi, pvL_len]
  have hR32 : pv.length ≤ 32 := by have := H.len; omega
  have hget : ∀ k, k < pv.length → (indM (mkM m R C E)).getD k 0 = ((pv.getD k 0 : Nat) : Int) := fun k hk => by rw [hi]; exact nl_getD _ hk
  have hrow : ∀ x ∈ indM (mkM m R C E), 0 ≤ x ∧ x < (R : Int) := fun x hx => by
    obtain ⟨k, hk, rfl⟩ := List.mem_iff_getElem.1 hx
    rw [← getD_in6 hk, hget k (by omega)]
    have := H.lt k (by omega)
    exact ⟨by omega, by omega⟩
  refine ⟨hlen, ?_⟩
  rw [pick_mk h1 h4 h2 h3 (by omega) hrow]
  refine ⟨rfl, ?_⟩
  show rankM (mkM m (indM (mkM m R C E)).length C (fun i j => E ((indM (mkM m R C E)).getD i 0).toNat j)) = _
  rw [rankM_is h1 (fun i j => h4 _ j) (by omega) h3, rankM_is h1 h4 h2 h3, hl]
  have hP : Vm m (fun i j => E ((indM (mkM m R C E)).getD i 0).toNat j) := fun i j => h4 _ j
  have g1 := rk_le_rows h1 pv.length C hP
  have g2 := rk_mul_r h1 (R := R) (n := pv.length) (C := C) (A := tr M) (B := fun i j => E ((indM (mkM m R C E)).getD i 0).toNat j) (P := E) (tr_v H.v) hP h4 (fun i j hi hj => by
    have q := hfac j i hj hi
    rw [hrk] at q
    show E i j = _
    refine (show E i j = tr E j i from rfl).trans (q.trans ?_)
    refine sm_congr fun k hk => ?_
    show mul m (E (pv.getD k 0) j) (M k i) = mul m (M k i) (E ((indM (mkM m R C E)).getD k 0).toNat j)
    rw [hget k hk, Int.toNat_natCast]
    exact mul_comm h1 (h4 _ _) (H.v k i))
  omega
/-- The inverse. -/
theorem inv_bad {a x : Mt} {e : Int} (hv : vM a = true) (hRC : a.R = a.C) (h : invM a = (x, e)) (he : e ≠ 0) : e = 10 ∧ rankM a < a.R := by
  obtain ⟨h1, h2⟩ := solve_id hv hRC
  unfold invM at h
  rw [if_pos ⟨hv, hRC⟩] at h
  by_cases hr : rankM a < a.R
  · rw [if_neg (h1 hr)] at h
    injection h with _ h
    exact ⟨h.symm, hr⟩
  · rw [if_pos (h2 hr)] at h
    injection h with _ h
    exact absurd h.symm he
theorem inv_ok {a x : Mt} (hv : vM a = true) (hRC : a.R = a.C) (h : invM a = (x, 0)) : ∃ (m n : Nat) (E X : Mx), Fm m ∧ n ≤ 32 ∧ Vm m E ∧ Vm m X ∧ a = mkM m n n E ∧ x = mkM m n n X ∧ rk m n n E = n ∧ ∀ i j, i < n → j < n → mm m n E X i j = idm i j := by
  obtain ⟨h1, h2⟩ := solve_id hv hRC
  obtain ⟨m, n, n2, hm, hn, hn2, hE, ha, e1, e2, e3, _⟩ := vM_parts hv
  obtain rfl : n = n2 := by omega
  have hr : ¬ rankM a < a.R := fun hr => by
    unfold invM at h
    rw [if_pos ⟨hv, hRC⟩, if_neg (h1 hr)] at h
    injection h with _ h
    cases h
  unfold invM at h
  rw [if_pos ⟨hv, hRC⟩, if_pos (h2 hr)] at h
  injection h with h _
  have h0 := h2 hr
  have hrk : rk m n n a.e = n := by
    have q : rankM a = ((rk m n n a.e : Nat) : Int) := by conv => lhs; rw [ha]; 
                                                          exact rankM_is hm hE hn hn
    have := rk_le_rows hm n n hE
    omega
  generalize hEE : a.e = E at hE ha hrk
  have hid : (idM a.F a.R).1 = mkM m n n idm := by rw [e1, e2, idM_is hm hn]
  rw [hid, ha] at h h0
  rw [ha] at hv
  have hE2 := vM_ev (m := m) hv rfl
  have hI := vM_ev (m := m) (vM_id hm hn) rfl
  rw [solveM_id hm hn hE hv] at h h0
  have hno : ¬ ∃ i, (red m n (sideM n (mkM m n n E).e (mkM m n n idm).e) n).2.length ≤ i ∧ i < n ∧ ∃ j, j < n + n ∧ (red m n (sideM n (mkM m n n E).e (mkM m n n idm).e) n).1 i j ≠ 0 := fun q => by
    unfold solF at h0
    rw [if_pos q] at h0
    cases h0
  unfold solF at h
  rw [if_neg hno] at h
  have hX := solK_v (pv := (red m n (sideM n (mkM m n n E).e (mkM m n n idm).e) n).2) (red_rd hm n (side_v (C := n) hE2 hI) n).v n (red m n (sideM n (mkM m n n E).e (mkM m n n idm).e) n).2.length
  refine ⟨m, n, E, _, hm, hn, hE, hX, ha, h.symm, hrk, fun i j hi hj => ?_⟩
  have q := sol_ok hm hE2 hI hno hi hj
  rw [mkM_e hi hj] at q
  rw [← q]
  exact mm_congr (fun k hk => (mkM_e hi hk).symm) (fun _ _ => rfl)
theorem inv_sides {a x : Mt} (hv : vM a = true) (hRC : a.R = a.C) (h : invM a = (x, 0)) : rankM a = a.R ∧ mulM a x = ((idM a.F a.R).1, 0) ∧ mulM x a = ((idM a.F a.R).1, 0) ∧ invM x = (a, 0) := by
  obtain ⟨m, n, E, X, hm, hn, hE, hX, rfl, rfl, hrk, hEX⟩ := inv_ok hv hRC h
  have hid : (idM (mkM m n n E).F (mkM m n n E).R).1 = mkM m n n idm := by
    show (idM (m : Int) (n : Int)).1 = _
    rw [idM_is hm hn]
  rw [hid]
  have hvX : vM (mkM m n n X) = true := vM_mk hm hn hn (fun i j _ _ => hX i j)
  -- the inverse has full rank
  have hrX : rk m n n X = n := by
    have h1 := rk_mul_r hm (R := n) (n := n) (C := n) hE hX (mm_v hm (n := n) (B := X) hE) (fun i j _ _ => rfl)
    rw [rk_id hm n (mm_v hm (n := n) (B := X) hE) hEX] at h1
    have := rk_le_rows hm n n hX
    omega
  have hnr : ¬ rankM (mkM m n n X) < (mkM m n n X).R := by
    rw [rankM_is hm hX hn hn, hrX]
    exact Int.lt_irrefl _
  obtain ⟨y, e, hy⟩ : ∃ y e, invM (mkM m n n X) = (y, e) := ⟨_, _, rfl⟩
  have he : e = 0 := Classical.byContradiction fun q => hnr (inv_bad hvX rfl hy q).2
  subst he
  obtain ⟨m', n', X', Y, hm', hn', hX', hY, e1, e2, _, hXY⟩ := inv_ok hvX rfl hy
  obtain rfl : m = m' := by have : (m : Int) = (m' : Int) := congrArg Mt.F e1; omega
  obtain rfl : n = n' := by have : (n : Int) = (n' : Int) := congrArg Mt.R e1; omega
  have hXX : ∀ i j, i < n → j < n → X' i j = X i j := fun i j hi hj => by
    rw [← mkM_e (m := m) (A := X') hi hj, ← e1, mkM_e hi hj]
  have hXY2 : ∀ i j, i < n → j < n → mm m n X Y i j = idm i j := fun i j hi hj => by
    rw [← hXY i j hi hj]
    exact mm_congr (fun k hk => (hXX i k hi hk).symm) (fun _ _ => rfl)
  have hEY : ∀ i j, i < n → j < n → Y i j = E i j := fun i j hi hj => by
    have h1 := mm_assoc hm (n := n) (k := n) hE hX hY i j
    have h2 : mm m n (mm m n E X) Y i j = Y i j := by
      rw [← mm_idl hm hY j hi]
      exact mm_congr (fun k hk => hEX i k hi hk) (fun _ _ => rfl)
    have h3 : mm m n E (mm m n X Y) i j = E i j := by
      rw [← mm_idr hm (A := E) i hj]
      exact mm_congr (fun _ _ => rfl) (fun k hk => hXY2 k j hk hj)
    rw [← h2, h1, h3]
  refine ⟨?_, ?_, ?_, ?_⟩
  · rw [rankM_is hm hE hn hn, hrk]; rfl
  · rw [mul_mk hm hE hX hn hn hn, mkM_congr hEX]
  · rw [mul_mk hm hX hE hn hn hn, mkM_congr (fun i j hi hj => ?_)]
    rw [← hXY2 i j hi hj]
    exact mm_congr (fun _ _ => rfl) (fun k hk => (hEY k j hk hj).symm)
  · rw [hy, e2, mkM_congr hEY]
/-- Of a system that was looked at, the parts. -/
theorem sol_parts {a b : Mt} (hc : vM a = true ∧ vM b = true ∧ a.F = b.F ∧ a.R = b.R) : ∃ m R C C2 : Nat, ∃ E E2 : Mx, Fm m ∧ R ≤ 32 ∧ C ≤ 32 ∧ C2 ≤ 32 ∧ Vm m E ∧ Vm m E2 ∧ a = mkM m R C E ∧ b = mkM m R C2 E2 ∧ solveM a b = solF m R C C2 (red m R (sideM C E E2) C) := by
  obtain ⟨m, R, C, h1, h2, h3, h4, h5, e1, e2, e3, f1, f2, f3⟩ := vM_parts hc.1
  obtain ⟨m', R', C', g1, g2, g3, g4, g5, g6, g7, g8, g9, g10, g11⟩ := vM_parts hc.2.1
  have q1 : m' = m := by have := hc.2.2.1; omega
  have q2 : R' = R := by have := hc.2.2.2; omega
  subst q1 q2
  refine ⟨m', R', C, C', a.e, b.e, h1, h2, h3, g3, h4, g4, h5, g5, ?_⟩
  unfold solveM
  rw [if_pos hc, f1, f2, f3, g11]
theorem sol_cond {a b x : Mt} {e : Int} (h : solveM a b = (x, e)) (he : e ≠ 1) : vM a = true ∧ vM b = true ∧ a.F = b.F ∧ a.R = b.R := by
  refine Classical.byContradiction fun hn => he ?_
  unfold solveM at h
  rw [if_neg hn] at h
  injection h with _ h
  exact h.symm
theorem sol_mul {a b x : Mt} (h : solveM a b = (x, 0)) : mulM a x = (b, 0) := by
  obtain ⟨m, R, C, C2, E, E2, hm, q1, q2, q3, v1, v2, ha, hb, hs⟩ := sol_parts (sol_cond h (by decide))
  rw [hs] at h
  have hno : ¬ ∃ i, (red m R (sideM C E E2) C).2.length ≤ i ∧ i < R ∧ ∃ j, j < C + C2 ∧ (red m R (sideM C E E2) C).1 i j ≠ 0 := fun q => by
    unfold solF at h
    rw [if_pos q] at h
    injection h with _ h
    cases h
  unfold solF at h
  rw [if_neg hno] at h
  injection h with h _
  have hX := solK_v (pv := (red m R (sideM C E E2) C).2) (red_rd hm R (side_v (C := C) v1 v2) C).v C (red m R (sideM C E E2) C).2.length
  rw [← h, ha, hb, mul_mk hm v1 hX q1 q2 q3, mkM_congr (fun i j hi hj => sol_ok hm v1 v2 hno hi hj)]
/-- The columns of both, as rows. -/
theorem nl_app {a b : Nat} (f g : Nat → Nat) (h : Nat → Nat) (h1 : ∀ k, k < a → h k = f k) (h2 : ∀ k, k < b → h (a + k) = g k) : nl (a + b) h = nl a f ++ nl b g := by
  apply List.ext_getElem
  · rw [List.length_append, nl_len, nl_len, nl_len]
  · intro k q1 q2
    rw [nl_get]
    rw [nl_len] at q1
    by_cases e : k < a
    · rw [List.getElem_append_left (by rw [nl_len]; exact e), nl_get, h1 k e]
    · rw [List.getElem_append_right (by rw [nl_len]; omega), nl_get, nl_len]
      have := h2 (k - a) (by omega)
      rw [show a + (k - a) = k by omega] at this
      rw [this]
theorem stack_is {m R C C2 : Nat} (E E2 : Mx) : (⟨(m : Int), ((C + C2 : Nat) : Int), (R : Int), (mkM m C R (tr E)).l ++ (mkM m C2 R (tr E2)).l⟩ : Mt) = mkM m (C + C2) R (tr (sideM C E E2)) := by
  show (⟨_, _, _, _⟩ : Mt) = ⟨_, _, _, _⟩
  congr 1
  show nl (C * R) _ ++ nl (C2 * R) _ = nl ((C + C2) * R) _
  rw [Nat.add_mul]
  refine (nl_app _ _ _ (fun k hk => ?_) (fun k hk => ?_)).symm
  · obtain ⟨h1, h2, _⟩ := ix_of hk
    show tr (sideM C E E2) (k / R) (k % R) = tr E (k / R) (k % R)
    show sideM C E E2 (k % R) (k / R) = E (k % R) (k / R)
    unfold sideM cat2
    rw [if_pos h1]
  · have hR : 0 < R := by rcases Nat.eq_zero_or_pos R with h | h; rw [h] at hk; omega; exact h
    show sideM C E E2 ((C * R + k) % R) ((C * R + k) / R) = E2 (k % R) (k / R)
    rw [show (C * R + k) % R = k % R by rw [Nat.mul_comm, Nat.mul_add_mod], show (C * R + k) / R = C + k / R by rw [Nat.mul_comm, Nat.mul_add_div hR]]
    unfold sideM cat2
    rw [if_neg (Nat.not_lt.2 (Nat.le_add_right _ _)), Nat.add_sub_cancel_left]
theorem sol_stack {a b x : Mt} (hs1 : a.C ≤ 12) (hs2 : b.C ≤ 12) (h : solveM a b = (x, 12)) : (trM a).2 = 0 ∧ (trM b).2 = 0 ∧ rankM ⟨a.F, (trM a).1.R + (trM b).1.R, (trM a).1.C, (trM a).1.l ++ (trM b).1.l⟩ > rankM a := by
  obtain ⟨m, R, C, C2, E, E2, hm, q1, q2, q3, v1, v2, ha, hb, hs⟩ := sol_parts (sol_cond h (by decide))
  rw [hs] at h
  have hex : ∃ i, (red m R (sideM C E E2) C).2.length ≤ i ∧ i < R ∧ ∃ j, j < C + C2 ∧ (red m R (sideM C E E2) C).1 i j ≠ 0 := Classical.byContradiction fun q => by
    unfold solF at h
    rw [if_neg q] at h
    injection h with _ h
    cases h
  have hlt := (sol_none hm v1 v2).1 hex
  have hC : (C : Int) ≤ 12 := by rw [ha] at hs1; exact hs1
  have hC2 : (C2 : Int) ≤ 12 := by rw [hb] at hs2; exact hs2
  rw [ha, hb, tr_mk hm v1 q1 q2, tr_mk hm v2 q1 q3]
  refine ⟨rfl, rfl, ?_⟩
  show rankM ⟨(m : Int), (C : Int) + (C2 : Int), (R : Int), (mkM m C R (tr E)).l ++ (mkM m C2 R (tr E2)).l⟩ > _
  have e := stack_is (m := m) (R := R) (C := C) (C2 := C2) E E2
  rw [show ((C + C2 : Nat) : Int) = (C : Int) + (C2 : Int) by omega] at e
  rw [e, rankM_is hm (tr_v (side_v (C := C) v1 v2)) (by omega) q1, rankM_is hm v1 q1 q2, rk_tr hm R (C + C2) (side_v (C := C) v1 v2)]
  omega

/-- The rows of the transposed factors. -/
theorem sol_rows {a b x : Mt} (hs1 : a.C ≤ 12) (hs2 : b.C ≤ 12) (h : solveM a b = (x, 12)) : (0 ≤ (trM a).1.R ∧ (trM a).1.R ≤ 12) ∧ (0 ≤ (trM b).1.R ∧ (trM b).1.R ≤ 12) := by
  obtain ⟨m, R, C, C2, E, E2, hm, q1, q2, q3, v1, v2, ha, hb, hs⟩ := sol_parts (sol_cond h (by decide))
  have hC : (C : Int) ≤ 12 := by rw [ha] at hs1; exact hs1
  have hC2 : (C2 : Int) ≤ 12 := by rw [hb] at hs2; exact hs2
  rw [ha, hb, tr_mk hm v1 q1 q2, tr_mk hm v2 q1 q3]
  exact ⟨⟨Int.natCast_nonneg _, hC⟩, ⟨Int.natCast_nonneg _, hC2⟩⟩
theorem add_small (t : TypeId) {x y : Int} (hx : 0 ≤ x ∧ x ≤ 12) (hy : 0 ≤ y ∧ y ≤ 12) : binOp .add t (.int .i64 x) (.int .i64 y) = pure (.int .i64 (x + y)) := by
  obtain ⟨u, rfl⟩ := Int.eq_ofNat_of_zero_le hx.1
  obtain ⟨v, rfl⟩ := Int.eq_ofNat_of_zero_le hy.1
  have h := nadd t u v (by omega)
  rw [Int.natCast_add] at h
  exact h
end Go.Proofs.YtodmcojcmihooaaDoor
