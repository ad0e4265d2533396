/-
  Inverse, walked.
  The laws of matrices: solutions, inverses, ranks; plain.
-/
import Derived.Test.YtodmcojcmihooaaDoorMatSo
namespace Go.Proofs.YtodmcojcmihooaaDoor
open Go.RowKit
set_option linter.unusedVariables false

/-- What Inverse answers. -/
noncomputable def invM (a : Mt) : Mt × Int :=
  if vM a = true ∧ a.R = a.C then (if (solveM a (idM a.F a.R).1).2 = 0 then ((solveM a (idM a.F a.R).1).1, 0) else (zeroM, 10)) else (zeroM, 1)
theorem own_turn {w w' : World} {base n g : Nat} {e : TypeId} {v : Value} {xs : List Value} (h : w.ownsRow base e 1 v n xs) (ht : Turned g w w') (hg : g < base) : w'.ownsRow base e 1 v n xs := by
  refine ⟨h.1, ?_⟩
  rcases h.2 with h0 | ⟨k, cap, cur, hv, hb, hk, r⟩
  · exact .inl h0
  · exact .inr ⟨k, cap, cur, hv, hb, by rw [ht.block k (by omega)]; exact hk, r⟩

set_option maxHeartbeats 2000000 in
set_option maxRecDepth 100000 in
theorem inver_any (a : Mt) (A : Option Addr) (c : Nat) (w : World) (hT : Tabs w) (hs : MIn w a A c) :
    Calls Tryd.prog 18 #[mtV a.F a.R a.C (.slice A a.l.length c)] w (MRes w (invM a)) := by
  have HV := hideIt (mvalid_b hT hs)
  have HID := hideIt (fun W (hW : Below w.heap.size w W) => ident_any a.F a.R W (hT.keep hW))
  have HSO := hideIt (fun (b : Mt) B cb W (hW : Below w.heap.size w W) (hb : MIn W b B cb) => solve_any a b A B c cb W (hT.keep hW) (hs.keep hW) hb)
  obtain ⟨r, hr⟩ : ∃ r, r = invM a := ⟨_, rfl⟩
  rw [← hr]
  have HR := hideIt hr
  clear hr
  obtain ⟨w1, hw1⟩ : ∃ w1, w1 = (w.alloc (.cells #[.int .i64 a.F, .int .i64 a.R, .int .i64 a.C, .slice A a.l.length c] 24)).alloc (.cells #[.int .i64 0, .int .i64 0, .int .i64 0, .slice none 0 0] 24) := ⟨_, rfl⟩
  have hw01 : Below w.heap.size w w1 := by rw [hw1]; exact ((Below.refl _ w).alloc (Nat.le_refl _) _).alloc (by simp) _
  have hba : Blk w1 w.heap.size 24 (mtC a.F a.R a.C (.slice A a.l.length c)) := by rw [hw1]; exact (Blk.new w _ _).alloc _
  have hpr : Blk w1 (w.heap.size + 1) 24 (mtC 0 0 0 (.slice none 0 0)) := by rw [hw1]; exact Blk.new2 w _ _ _
  have HW1 := hideIt hw1
  have HW01 := hideIt hw01
  have HBA := hideIt hba
  have HPR := hideIt hpr
  clear hw1 hw01 hba hpr
  by_cases hv : vM a = true
  · rw [hv] at HV
    by_cases hRC : a.R = a.C
    · have HR2 : Hid (r = if (solveM a (idM a.F a.R).1).2 = 0 then ((solveM a (idM a.F a.R).1).1, 0) else (zeroM, 10)) := hideIt (by rw [HR.out]; exact if_pos ⟨hv, hRC⟩)
      obtain ⟨m, n, n2, hm, hnl, hnl2, hE, ha⟩ := vM_is hv
      have hid : idM a.F a.R = (mkM m n n idm, 0) := by
        have e1 : a.F = (m : Int) := by rw [ha]; rfl
        have e2 : a.R = (n : Int) := by rw [ha]; rfl
        rw [e1, e2]
        unfold idM
        rw [if_pos ⟨vd_true (a := 0) hm (Nat.two_pow_pos m), isz_nat hnl⟩, Int.toNat_natCast, Int.toNat_natCast]
      rw [hid] at HID HR2
      have hq := int_neqF6 3 hRC
      generalize mkM m n n idm = I at HID HR2
      have HR3 : Hid (r = if (solveM a I).2 = 0 then ((solveM a I).1, 0) else (zeroM, 10)) := HR2
      have HSI := hideIt (HSO.out I)
      generalize solveM a I = r2 at HSI HR3
      clear hv hRC hm hE ha hid hs hT HR HR2 HSO
      generalize a.l.length = la at *
      generalize a.F = F at *
      generalize a.R = R at *
      generalize a.C = C at *
      go_enter Tryd.func18, Tryd.ntmps18
      go_wp2_with fail
      rw [← HW1.out]
      refine (HV.out w1 HW01.out).mono ?_
      rintro e w2 ⟨rfl, hb2⟩
      have HBA2 := hideIt (HBA.out.kept hb2 HBA.out.lt)
      have HPR2 := hideIt (HPR.out.kept hb2 HPR.out.lt)
      have HW02 := hideIt (HW01.out.trans (hb2.mono HW01.out.size))
      have f0 := HBA2.out.cell 0
      have f1 := HBA2.out.cell 1
      have f2 := HBA2.out.cell 2
      clear hb2 HW1 HW01 HBA HPR HV
      go_wp2_with fail
      refine (HID.out w2 HW02.out).mono ?_
      rintro e w3 ⟨s, rfl, ho, hb3⟩
      obtain ⟨B, cb, rfl, hin⟩ := MRes.min ho
      have HW03 := hideIt (HW02.out.trans (hb3.mono HW02.out.size))
      have HBA3 := hideIt (HBA2.out.kept hb3 HBA2.out.lt)
      have HPR3 := hideIt (HPR2.out.kept hb3 HPR2.out.lt)
      have HIN := hideIt hin
      have HB4 := hideIt (Blk.new w3 24 (mtC I.F I.R I.C (.slice B I.l.length cb)))
      have HW4 := hideIt (below_new w3 (.cells (mtC I.F I.R I.C (.slice B I.l.length cb)).toArray 24))
      clear ho hb3 hin f0 f1 f2 HBA2 HPR2 HW02 HID
      go_wp2_with (first
        | ((with_reducible refine at_load ?_); refine wpList_ldM rfl (.tmp 1) rfl w.heap.size _ _ _ _ rfl (HBA3.out.alloc _) ?_)
        | ((with_reducible refine at_load ?_); refine wpList_ldM rfl (.tmp 4) rfl w3.heap.size _ _ _ _ rfl HB4.out ?_))
      refine (HSI.out B cb _ (HW03.out.trans (HW4.out.mono HW03.out.size)) (HIN.out.keep HW4.out)).mono ?_
      rintro e w5 ⟨s2, rfl, ho2, hb5⟩
      have HPR5 := hideIt ((HPR3.out.alloc _).kept hb5 (HPR3.out.alloc _).lt)
      have HW05 := hideIt ((HW03.out.trans (HW4.out.mono HW03.out.size)).trans (hb5.mono (HW03.out.trans (HW4.out.mono HW03.out.size)).size))
      have HLT := hideIt (Nat.lt_trans HPR3.out.lt (show w3.heap.size < (w3.alloc (.cells (mtC I.F I.R I.C (.slice B I.l.length cb)).toArray 24)).heap.size by simp))
      obtain ⟨A2, c2, rfl, _, _⟩ := own_form ho2
      have HO2 := hideIt ho2
      have HB6 := hideIt (Blk.new w5 24 (mtC r2.1.F r2.1.R r2.1.C (.slice A2 r2.1.l.length c2)))
      clear ho2 hb5 HSI
      by_cases h0 : r2.2 = 0
      · have HR4 : Hid (r = (r2.1, 0)) := hideIt (by rw [HR3.out, if_pos h0])
        rw [h0]
        clear h0 HR3
        go_wp2_with (first
          | ((with_reducible refine at_load ?_); refine wpList_ldM rfl (.tmp 6) rfl w5.heap.size _ _ _ _ rfl HB6.out ?_)
          | ((with_reducible refine at_store ?_); refine wpList_stM rfl (.tmp 2) (.tmp 36) rfl (w.heap.size + 1) _ _ _ _ _ _ _ _ rfl rfl rfl (HPR5.out.alloc _) ?_; intro w8 HT8 HB8))
        refine bodyPost_ret (results_two rfl _ _ (w.heap.size + 1) _ _ _ rfl HB8.out Tryd.underlying24 rfl isz4) rfl ?_
        rw [HR4.out]
        refine ⟨.slice A2 r2.1.l.length c2, rfl, ?_, HT8.out.below (HW05.out.alloc HW05.out.size _) (by omega)⟩
        exact own_low (own_turn (own_kept HO2.out (below_new w5 _)) HT8.out HLT.out) (HW03.out.trans (HW4.out.mono HW03.out.size)).size
      · have HR4 : Hid (r = (zeroM, 10)) := hideIt (by rw [HR3.out, if_neg h0])
        have hnq := int_neqT6 27 h0
        generalize r2.2 = er at *
        clear h0 HR3
        go_wp2_with ((with_reducible refine at_store ?_); refine wpList_stM rfl (.tmp 2) (.tmp 35) rfl (w.heap.size + 1) 0 0 0 0 0 0 (.slice none 0 0) (.slice none 0 0) rfl rfl rfl (HPR5.out.alloc _) ?_; intro w8 HT8 HB8)
        refine bodyPost_ret (results_two rfl _ _ (w.heap.size + 1) _ _ _ rfl HB8.out Tryd.underlying24 rfl isz4) rfl ?_
        rw [HR4.out]
        exact MRes.bad (HT8.out.below (HW05.out.alloc HW05.out.size _) (by omega)) 10
    · have HR2 : Hid (r = (zeroM, 1)) := hideIt (by rw [HR.out]; exact if_neg (fun h => hRC h.2))
      have hq := int_neqT6 3 hRC
      clear hv hRC hs hT HR HSO HID
      generalize a.l.length = la at *
      generalize a.F = F at *
      generalize a.R = R at *
      generalize a.C = C at *
      go_enter Tryd.func18, Tryd.ntmps18
      go_wp2_with fail
      rw [← HW1.out]
      refine (HV.out w1 HW01.out).mono ?_
      rintro e w2 ⟨rfl, hb2⟩
      have HBA2 := hideIt (HBA.out.kept hb2 HBA.out.lt)
      have HPR2 := hideIt (HPR.out.kept hb2 HPR.out.lt)
      have HW02 := hideIt (HW01.out.trans (hb2.mono HW01.out.size))
      have f1 := HBA2.out.cell 1
      have f2 := HBA2.out.cell 2
      clear hb2 HW1 HW01 HBA HPR HV
      go_wp2_with ((with_reducible refine at_store ?_); refine wpList_stM rfl (.tmp 2) (.tmp 18) rfl (w.heap.size + 1) 0 0 0 0 0 0 (.slice none 0 0) (.slice none 0 0) rfl rfl rfl HPR2.out ?_; intro w8 HT8 HB8)
      refine bodyPost_ret (results_two rfl _ _ (w.heap.size + 1) _ _ _ rfl HB8.out Tryd.underlying24 rfl isz4) rfl ?_
      rw [HR2.out]
      exact MRes.bad (HT8.out.below HW02.out (by omega)) 1
  · rw [Bool.eq_false_iff.2 hv] at HV
    have HR2 : Hid (r = (zeroM, 1)) := hideIt (by rw [HR.out]; exact if_neg (fun h => hv h.1))
    clear hv hs hT HR HSO HID
    generalize a.l.length = la at *
    generalize a.F = F at *
    generalize a.R = R at *
    generalize a.C = C at *
    go_enter Tryd.func18, Tryd.ntmps18
    go_wp2_with fail
    rw [← HW1.out]
    refine (HV.out w1 HW01.out).mono ?_
    rintro e w2 ⟨rfl, hb2⟩
    have HPR2 := hideIt (HPR.out.kept hb2 HPR.out.lt)
    have HW02 := hideIt (HW01.out.trans (hb2.mono HW01.out.size))
    clear hb2 HW1 HW01 HBA HPR HV
    go_wp2_with ((with_reducible refine at_store ?_); refine wpList_stM rfl (.tmp 2) (.tmp 18) rfl (w.heap.size + 1) 0 0 0 0 0 0 (.slice none 0 0) (.slice none 0 0) rfl rfl rfl HPR2.out ?_; intro w8 HT8 HB8)
    refine bodyPost_ret (results_two rfl _ _ (w.heap.size + 1) _ _ _ rfl HB8.out Tryd.underlying24 rfl isz4) rfl ?_
    rw [HR2.out]
    exact MRes.bad (HT8.out.below HW02.out (by omega)) 1

section
variable {m : Nat}
theorem red_stuck (R : Nat) (A : Mx) (c : Nat) : ∀ d, (∀ i, (red m R A c).2.length ≤ i → i < R → ∀ j, c ≤ j → j < c + d → (red m R A c).1 i j = 0) → (red m R A c).2.length ≤ R → red m R A (c + d) = red m R A c
  | 0, _, _ => rfl
  | d + 1, h, hl => by
    have ih := red_stuck R A c d (fun i h1 h2 j h3 h4 => h i h1 h2 j h3 (by omega)) hl
    show stp m R (c + d) (red m R A (c + d)) = _
    rw [ih]
    unfold stp
    rw [if_neg]
    rw [prow_none hl (fun k h1 h2 => h k h1 h2 (c + d) (by omega) (by omega))]
    omega
variable (hm : Fm m)
include hm
/-- Elimination goes on exactly if a row below the pivots has an element but 0. -/
theorem red_grows {R : Nat} {A : Mx} (hA : Vm m A) (c d : Nat) : (∃ i, (red m R A c).2.length ≤ i ∧ i < R ∧ ∃ j, j < c + d ∧ (red m R A c).1 i j ≠ 0) ↔ (red m R A c).2.length < (red m R A (c + d)).2.length := by
  have H := red_rd hm R hA c
  have H2 := red_rd hm R hA (c + d)
  obtain ⟨h1, h2⟩ := red_more m R A c d
  constructor
  · rintro ⟨i, q1, q2, j, q3, q4⟩
    rcases Nat.lt_or_ge (red m R A c).2.length (red m R A (c + d)).2.length with h | h
    · exact h
    · have e := h2 (by omega)
      rw [e] at H2
      exact absurd (H2.zero i q1 q2 j q3) q4
  · intro h
    refine Classical.byContradiction fun hn => ?_
    have e := red_stuck (m := m) R A c d (fun i q1 q2 j q3 q4 => Classical.byContradiction fun q5 => hn ⟨i, q1, q2, j, q4, q5⟩) H.len
    rw [e] at h
    omega
omit hm in
theorem red_side {R C : Nat} {E E2 : Mx} : (red m R (sideM C E E2) C).2 = (red m R E C).2 :=
  (red_congr (m := m) (R := R) (C := C) (fun i j _ hj => by unfold sideM cat2; rw [if_pos hj]) C (Nat.le_refl _)).1
/-- There is no solution exactly if the columns of the second matrix increase the rank. -/
theorem sol_none {R C C2 : Nat} {E E2 : Mx} (hE : Vm m E) (hE2 : Vm m E2) : (∃ i, (red m R (sideM C E E2) C).2.length ≤ i ∧ i < R ∧ ∃ j, j < C + C2 ∧ (red m R (sideM C E E2) C).1 i j ≠ 0) ↔ rk m R C E < rk m R (C + C2) (sideM C E E2) := by
  rw [red_grows hm (side_v (C := C) hE hE2) C C2]
  unfold rk
  rw [red_side]
omit hm in
theorem solK_no {pv : List Nat} {M : Mx} {C r j : Nat} : ∀ k, (∀ l, l < k → r ≠ pv.getD l 0) → solK pv M C k r j = 0
  | 0, _ => rfl
  | k + 1, h => by
    show (if r = pv.getD k 0 then M k (C + j) else solK pv M C k r j) = 0
    rw [if_neg (h k (by omega))]
    exact solK_no k (fun l hl => h l (by omega))
omit hm in
theorem solK_at {pv : List Nat} {M : Mx} {C j t : Nat} : ∀ k, t < k → (∀ l, t < l → l < k → pv.getD t 0 ≠ pv.getD l 0) → solK pv M C k (pv.getD t 0) j = M t (C + j)
  | 0, h, _ => absurd h (Nat.not_lt_zero _)
  | k + 1, h, hd => by
    show (if pv.getD t 0 = pv.getD k 0 then M k (C + j) else solK pv M C k (pv.getD t 0) j) = _
    by_cases e : t = k
    · rw [e, if_pos rfl]
    · rw [if_neg (hd k (by omega) (by omega))]
      exact solK_at k (by omega) (fun l h1 h2 => hd l h1 (by omega))
omit hm in
theorem solK_v {pv : List Nat} {M : Mx} (hM : Vm m M) (C : Nat) : ∀ k, Vm m (solK pv M C k)
  | 0, _, _ => Nat.two_pow_pos m
  | k + 1, r, j => by
    show (if r = pv.getD k 0 then M k (C + j) else solK pv M C k r j) < 2 ^ m
    split
    · exact hM _ _
    · exact solK_v hM C k r j
/-- The solution is what 'put' lays at the pivots. -/
theorem solK_put {R C c : Nat} {A M : Mx} {pv : List Nat} (H : Rd m R A c M pv) (j x : Nat) : solK pv M C pv.length x j = put m pv.length (fun k => pv.getD k 0) (fun k => M k (C + j)) x := by
  unfold put
  have hne : ∀ t l, t < l → l < pv.length → pv.getD t 0 ≠ pv.getD l 0 := fun t l h1 h2 e => by have := H.mono t l h1 h2; omega
  by_cases hx : ∃ t, t < pv.length ∧ x = pv.getD t 0
  · obtain ⟨t, ht, rfl⟩ := hx
    rw [solK_at _ ht (fun l h1 h2 => hne t l h1 h2)]
    rw [sm_one ht (fun l hl h => by
      rw [if_neg, mul_zeroR]
      rcases Nat.lt_trichotomy l t with q | q | q
      · exact Ne.symm (hne l t q ht)
      · exact absurd q h
      · exact hne t l q hl), if_pos rfl, mul_oneR hm]
  · rw [solK_no _ (fun l hl e => hx ⟨l, hl, e⟩), sm_zero (fun l hl => by rw [if_neg (fun e => hx ⟨l, hl, e⟩), mul_zeroR])]
omit hm in
/-- A sum over two stretches. -/
theorem sm_add (f : Nat → Nat) (a : Nat) : ∀ b, sm (a + b) f = sm a f ^^^ sm b (fun k => f (a + k))
  | 0 => (Nat.xor_zero _).symm
  | b + 1 => by
    show sm (a + b) f ^^^ f (a + b) = sm a f ^^^ (sm b (fun k => f (a + k)) ^^^ f (a + b))
    rw [sm_add f a b, Nat.xor_assoc]
/-- The first matrix times the solution is the second one. -/
theorem sol_ok {R C C2 : Nat} {E E2 : Mx} (hE : Vm m E) (hE2 : Vm m E2) (hn : ¬ ∃ i, (red m R (sideM C E E2) C).2.length ≤ i ∧ i < R ∧ ∃ j, j < C + C2 ∧ (red m R (sideM C E E2) C).1 i j ≠ 0) {i j : Nat} (hi : i < R) (hj : j < C2) :
    mm m C E (solK (red m R (sideM C E E2) C).2 (red m R (sideM C E E2) C).1 C (red m R (sideM C E E2) C).2.length) i j = E2 i j := by
  have hS := side_v (m := m) (C := C) hE hE2
  have H := red_rd hm R hS C
  generalize hM : (red m R (sideM C E E2) C).1 = M at *
  generalize hpv : (red m R (sideM C E E2) C).2 = pv at *
  have hy : Vv m (fun k => M k (C + j)) := fun k => H.v k _
  -- the vector
  obtain ⟨x, hx⟩ : ∃ x : Nat → Nat, x = fun t => if t < C then solK pv M C pv.length t j else if t = C + j then 1 else 0 := ⟨_, rfl⟩
  have hxv : Vv m x := fun t => by
    rw [hx]
    show (if t < C then solK pv M C pv.length t j else if t = C + j then 1 else 0) < 2 ^ m
    split
    · exact solK_v H.v C _ t j
    · split
      · exact fm_one hm
      · exact Nat.two_pow_pos m
  have hdot : ∀ r : Nat → Nat, Vv m r → dot m (C + C2) r x = (sm C fun t => mul m (r t) (solK pv M C pv.length t j)) ^^^ r (C + j) := fun r hr => by
    unfold dot
    rw [sm_add]
    congr 1
    · exact sm_congr fun t ht => by rw [hx]; show mul m (r t) (if t < C then _ else _) = _; rw [if_pos ht]
    · rw [sm_one hj (fun t ht hne => by rw [hx]; show mul m (r (C + t)) (if C + t < C then _ else if C + t = C + j then 1 else 0) = 0; rw [if_neg (by omega), if_neg (by omega), mul_zeroR])]
      rw [hx]
      show mul m (r (C + j)) (if C + j < C then _ else if C + j = C + j then 1 else 0) = _
      rw [if_neg (by omega), if_pos rfl, mul_oneR hm]
  have hsum : ∀ r : Nat → Nat, Vv m r → (sm C fun t => mul m (r t) (solK pv M C pv.length t j)) = sm pv.length fun k => mul m (r (pv.getD k 0)) (M k (C + j)) := fun r hr => by
    rw [← dot_put hm hr hy H.lt]
    unfold dot
    exact sm_congr fun t _ => by rw [solK_put hm H]
  have hker : Ker m R (C + C2) M x := fun t ht => by
    rw [hdot _ (H.v t), hsum _ (H.v t)]
    by_cases e : t < pv.length
    · rw [sm_one e (fun k hk hne => by rw [H.one k hk t ht, if_neg (Ne.symm hne), mul_zeroL]), H.one t e t ht, if_pos rfl, mul_oneL hm (H.v t _), xs]
    · have h0 : M t (C + j) = 0 := Classical.byContradiction fun q => hn ⟨t, by omega, ht, C + j, by omega, q⟩
      rw [h0, sm_zero (fun k hk => by rw [H.one k hk t ht, if_neg (by omega), mul_zeroL]), xs]
  have h1 := (H.ker (C + C2) x hxv).1 hker i hi
  rw [hdot _ (hS i)] at h1
  have h2 := xe h1
  rw [show sideM C E E2 i (C + j) = E2 i j by unfold sideM cat2; rw [if_neg (by omega), show C + j - C = j by omega]] at h2
  rw [← h2]
  unfold mm
  exact sm_congr fun t ht => by rw [show sideM C E E2 i t = E i t by unfold sideM cat2; rw [if_pos ht]]
/-- Beside the identity, the rank is full. -/
theorem rk_side_id (n : Nat) {E I : Mx} (hE : Vm m E) (hI : Vm m I) (h : ∀ i j, i < n → j < n → I i j = idm i j) : rk m n (n + n) (sideM n E I) = n := by
  refine Nat.le_antisymm (rk_le_rows hm n (n + n) (side_v (C := n) hE hI)) ?_
  have h1 := rk_mul_l hm (R := n) (n := n + n) (C := n) (A := sideM n E I) (B := fun i j => if i = n + j then 1 else 0) (P := I) (side_v (C := n) hE hI) (fun i j => by show (if i = n + j then 1 else 0) < 2 ^ m; split; exact fm_one hm; exact Nat.two_pow_pos m) hI (fun i j hi hj => by
    unfold mm
    have hlt : n + j < n + n := by omega
    rw [sm_one (f := fun k => mul m (sideM n E I i k) (if k = n + j then 1 else 0)) hlt (fun k hk hne => by show mul m _ (if k = n + j then 1 else 0) = 0; rw [if_neg hne, mul_zeroR])]
    show _ = mul m _ (if n + j = n + j then 1 else 0)
    rw [if_pos rfl, mul_oneR hm]
    unfold sideM cat2
    rw [if_neg (by omega), show n + j - n = j by omega])
  rw [rk_id hm n hI h] at h1
  exact h1
/-- A square matrix has an inverse exactly if its rank is full. -/
theorem inv_iff (n : Nat) {E I : Mx} (hE : Vm m E) (hI : Vm m I) (h : ∀ i j, i < n → j < n → I i j = idm i j) : (∃ i, (red m n (sideM n E I) n).2.length ≤ i ∧ i < n ∧ ∃ j, j < n + n ∧ (red m n (sideM n E I) n).1 i j ≠ 0) ↔ rk m n n E < n := by
  rw [sol_none hm hE hI, rk_side_id hm n hE hI h]
end

end Go.Proofs.YtodmcojcmihooaaDoor
