/-
  The plan does not depend on the order in which the candidates are taken: two candidates with the same reads are the same.
-/
import Derived.Test.YtklngodlijiccaaDoorRepA
namespace Go.Proofs.YtklngodlijiccaaDoor
open Go.RowKit
set_option linter.unusedVariables false
set_option linter.unusedSimpArgs false

abbrev TL := List (Nat × Nat)
/-- The coefficient of a unit in a list of terms. -/
def cfT : TL → Nat → Nat
  | [], _ => 0
  | t :: L, r => (if t.1 = r then t.2 else 0) ^^^ cfT L r
theorem cfT_none : ∀ (L : TL) (r : Nat), (∀ t ∈ L, t.1 ≠ r) → cfT L r = 0
  | [], _, _ => rfl
  | t :: L, r, h => by
    show (if t.1 = r then t.2 else 0) ^^^ cfT L r = 0
    rw [if_neg (h t List.mem_cons_self), cfT_none L r fun q hq => h q (List.mem_cons_of_mem _ hq)]; rfl
theorem cfT_mem : ∀ (L : TL), (L.Pairwise fun a b => a.1 < b.1) → ∀ t ∈ L, cfT L t.1 = t.2
  | [], _, _, h => by cases h
  | a :: L, hp, t, h => by
    obtain ⟨h1, h2⟩ := List.pairwise_cons.1 hp
    show (if a.1 = t.1 then a.2 else 0) ^^^ cfT L t.1 = t.2
    rcases List.mem_cons.1 h with rfl | h
    · rw [if_pos rfl, cfT_none L t.1 fun q hq => Nat.ne_of_gt (h1 q hq)]; exact Nat.xor_zero _
    · rw [if_neg (Nat.ne_of_lt (h1 t h)), cfT_mem L h2 t h]; exact Nat.zero_xor _
theorem cfT_lt {m : Nat} : ∀ (L : TL), (∀ t ∈ L, t.2 < 2 ^ m) → ∀ r, cfT L r < 2 ^ m
  | [], _, _ => Nat.two_pow_pos m
  | t :: L, h, r => by
    refine Nat.xor_lt_two_pow ?_ (cfT_lt L (fun q hq => h q (List.mem_cons_of_mem _ hq)) r)
    split
    · exact h t List.mem_cons_self
    · exact Nat.two_pow_pos m
theorem cfT_map (L : TL) (hp : L.Pairwise fun a b => a.1 < b.1) : (L.map (·.1)).map (fun r => (r, cfT L r)) = L := by
  rw [List.map_map]
  conv => rhs; rw [← List.map_id L]
  exact List.map_congr_left fun t ht => by show (t.1, cfT L t.1) = t; rw [cfT_mem L hp t ht]
section
variable {x : Cd} {m n : Nat}
theorem fsum_cb (h : VC x m n) (B : List Nat) (hB : ∀ i l, i < l → l < B.length → B.getD i 0 < B.getD l 0) (j : Nat) : ∀ L : TL, (∀ t ∈ L, t.1 ∈ B ∧ t.2 < 2 ^ m) → fsum m (gC x) L j = cb m B.length (sel (gC x) B) (fun k => cfT L (B.getD k 0)) j
  | [], _ => (cb_zero m _ _ _ (fun _ _ => rfl) j).symm
  | t :: L, ht => by
    obtain ⟨h1, h2⟩ := ht t List.mem_cons_self
    rw [fsum_cons, fsum_cb h B hB j L fun q hq => ht q (List.mem_cons_of_mem _ hq)]
    show _ = cb m B.length (sel (gC x) B) (fun k => (if t.1 = B.getD k 0 then t.2 else 0) ^^^ cfT L (B.getD k 0)) j
    rw [cb_xor]
    congr 1
    obtain ⟨i, hi, he⟩ := List.getElem_of_mem h1
    have hei : B.getD i 0 = t.1 := by rw [List.getD_eq_getElem?_getD, List.getElem?_eq_getElem hi]; exact he
    unfold cb
    rw [sm_one hi]
    · show _ = mul m (if t.1 = B.getD i 0 then t.2 else 0) (gC x (B.getD i 0) j)
      rw [if_pos hei.symm, hei]
    · intro k hk hne
      show mul m (if t.1 = B.getD k 0 then t.2 else 0) _ = 0
      rw [if_neg, mul_zeroL]
      intro hq
      rw [← hei] at hq
      rcases Nat.lt_or_gt_of_ne hne with q | q
      · have := hB k i q hi; omega
      · have := hB i k q hk; omega
/-- Over independent rows the terms are determined by their reads. -/
theorem terms_uniq (h : VC x m n) {hs : List Bool} {u : Nat} {L M : TL} (hL : GoodT x m n hs u L) (hM : GoodT x m n hs u M) (hb : ∀ t ∈ M, t.1 ∈ basL x (ot hs u)) (he : L.map (·.1) = M.map (·.1)) : L = M := by
  have hbL : ∀ t ∈ L, t.1 ∈ basL x (ot hs u) := fun t ht => by
    have : t.1 ∈ M.map (·.1) := he ▸ List.mem_map_of_mem ht
    obtain ⟨q, hq, e⟩ := List.mem_map.1 this
    exact e ▸ hb q hq
  have hBi : ∀ i l, i < l → l < (basL x (ot hs u)).length → (basL x (ot hs u)).getD i 0 < (basL x (ot hs u)).getD l 0 := fun i l h1 h2 => by
    rw [basL_vc h] at h2 ⊢
    exact bas_inc _ i l h1 h2
  have hI : Ind m n (basL x (ot hs u)).length (sel (gC x) (basL x (ot hs u))) := by
    rw [basL_vc h]
    exact bas_ind h.fm (gC_v h) _
  have hq := hI.uniq (c := fun k => cfT L ((basL x (ot hs u)).getD k 0)) (d := fun k => cfT M ((basL x (ot hs u)).getD k 0)) (fun k => cfT_lt L (fun t ht => (hL.mem t ht).2.2.1) _) (fun k => cfT_lt M (fun t ht => (hM.mem t ht).2.2.1) _) fun j hj => by
    rw [← fsum_cb h _ hBi j L fun t ht => ⟨hbL t ht, (hL.mem t ht).2.2.1⟩, ← fsum_cb h _ hBi j M fun t ht => ⟨hb t ht, (hM.mem t ht).2.2.1⟩, hL.sum j hj, hM.sum j hj]
  rw [← cfT_map L hL.inc, ← cfT_map M hM.inc, he]
  refine List.map_congr_left fun r hr => ?_
  obtain ⟨t, ht, rfl⟩ := List.mem_map.1 hr
  obtain ⟨i, hi, e⟩ := List.getElem_of_mem (hb t ht)
  have := hq i hi
  rw [show (basL x (ot hs u)).getD i 0 = t.1 by rw [List.getD_eq_getElem?_getD, List.getElem?_eq_getElem hi]; exact e] at this
  rw [this]
theorem tms_in (B : List Nat) (c : Nat → Nat) : ∀ k, k ≤ B.length → ∀ t ∈ tms B c k, t.1 ∈ B
  | k, hk, t, ht => by
    obtain ⟨i, hi, rfl, _⟩ := tms_mem ht
    show B.getD i 0 ∈ B
    rw [List.getD_eq_getElem?_getD, List.getElem?_eq_getElem (by omega)]
    exact List.getElem_mem _
theorem bes0_in (h : VC x m n) {hs : List Bool} {u : Nat} (hok : okB x hs = true) (hu : u < hs.length) {L : TL} (hL : bes0 x hs u = some L) : ∀ t ∈ L, t.1 ∈ basL x (ot hs u) := by
  have hb := bes0_rec hok hu
  by_cases hr : recov x (ot hs u) u
  · rw [hb.1 hr] at hL
    injection hL with hL
    subst hL
    exact tms_in _ _ _ (Nat.le_refl _)
  · rw [hb.2 hr] at hL; cases hL
theorem trC_reads (i u : Nat) : (trC x i u).map (·.1) = (chk x i).filter fun k => decide (k ≠ u) := by
  unfold trC
  rw [List.map_map]
  exact List.map_id _
/-- Two checks of one unit with the same reads are one. -/
theorem trC_uniq (h : VC x m n) {i k u : Nat} (hi : u ∈ chk x i) (hk : u ∈ chk x k) (he : (trC x i u).map (·.1) = (trC x k u).map (·.1)) : i = k := by
  rw [trC_reads, trC_reads] at he
  have key : ∀ a b, u ∈ chk x a → u ∈ chk x b → ((chk x a).filter fun k => decide (k ≠ u)) = ((chk x b).filter fun k => decide (k ≠ u)) → n + a ≠ u → a = b := fun a b _ hb e hne => by
    have h1 : n + a ∈ (chk x b).filter fun k => decide (k ≠ u) := e ▸ List.mem_filter.2 ⟨(mem_chk h).2 (.inr rfl), decide_eq_true hne⟩
    rcases (mem_chk h).1 (List.mem_filter.1 h1).1 with ⟨q, _⟩ | q <;> omega
  by_cases h1 : n + i = u
  · by_cases h2 : n + k = u
    · omega
    · exact (key k i hk hi he.symm h2).symm
  · exact key i k hi hk he h1
end
/-! The order of the candidates. -/
theorem ltU_irr : ∀ a : TL, ¬ ltU a a = true
  | [], h => by cases h
  | t :: a, h => by
    unfold ltU at h
    rw [if_neg (fun h => h rfl)] at h
    exact ltU_irr a h
theorem ltU_trans : ∀ {a b c : TL}, ltU a b = true → ltU b c = true → ltU a c = true
  | [], _, _, h, _ => by cases h
  | _ :: _, [], _, h, _ => by cases h
  | _ :: _, _ :: _, [], _, h => by cases h
  | p :: a, q :: b, r :: c, h, k => by
    unfold ltU at h k ⊢
    by_cases e : p.1 = q.1
    · rw [if_neg (fun h => h e)] at h
      by_cases f : q.1 = r.1
      · rw [if_neg (fun h => h f)] at k
        rw [if_neg (fun h => h (e.trans f))]
        exact ltU_trans h k
      · rw [if_pos f] at k
        rw [if_pos (by rw [e]; exact f), e]
        exact k
    · rw [if_pos e] at h
      have h1 := of_decide_eq_true h
      by_cases f : q.1 = r.1
      · rw [if_pos (by rw [← f]; exact e), ← f]; exact h
      · rw [if_pos f] at k
        have h2 := of_decide_eq_true k
        rw [if_pos (by omega)]
        exact decide_eq_true (by omega)
theorem ltU_eq : ∀ {a b : TL}, a.length = b.length → ¬ ltU a b = true → ¬ ltU b a = true → a.map (·.1) = b.map (·.1)
  | [], [], _, _, _ => rfl
  | [], _ :: _, h, _, _ => by cases h
  | _ :: _, [], h, _, _ => by cases h
  | p :: a, q :: b, hl, h, k => by
    unfold ltU at h k
    by_cases e : p.1 = q.1
    · rw [if_neg (fun h => h e)] at h
      rw [if_neg (fun h => h e.symm)] at k
      rw [List.map_cons, List.map_cons, e, ltU_eq (by simpa using hl) h k]
    · rw [if_pos e] at h
      rw [if_pos (fun h => e h.symm)] at k
      have h1 : ¬ p.1 < q.1 := fun z => h (decide_eq_true z)
      have h2 : ¬ q.1 < p.1 := fun z => k (decide_eq_true z)
      omega
theorem bt_irr (a : TL) : ¬ bt a a = true := by unfold bt; rw [if_neg (fun h => h rfl)]; exact ltU_irr a
theorem bt_trans {a b c : TL} (h : bt a b = true) (k : bt b c = true) : bt a c = true := by
  unfold bt at h k ⊢
  by_cases e : a.length = b.length
  · rw [if_neg (fun h => h e)] at h
    by_cases f : b.length = c.length
    · rw [if_neg (fun h => h f)] at k
      rw [if_neg (fun h => h (e.trans f))]
      exact ltU_trans h k
    · rw [if_pos f] at k
      rw [if_pos (by rw [e]; exact f), e]
      exact k
  · rw [if_pos e] at h
    have h1 := of_decide_eq_true h
    by_cases f : b.length = c.length
    · rw [if_pos (by rw [← f]; exact e), ← f]; exact h
    · rw [if_pos f] at k
      have h2 := of_decide_eq_true k
      rw [if_pos (by omega)]
      exact decide_eq_true (by omega)
theorem bt_eq {a b : TL} (h : ¬ bt a b = true) (k : ¬ bt b a = true) : a.map (·.1) = b.map (·.1) := by
  unfold bt at h k
  by_cases e : a.length = b.length
  · rw [if_neg (fun h => h e)] at h
    rw [if_neg (fun h => h e.symm)] at k
    exact ltU_eq e h k
  · rw [if_pos e] at h
    rw [if_pos (fun h => e h.symm)] at k
    have h1 : ¬ a.length < b.length := fun z => h (decide_eq_true z)
    have h2 : ¬ b.length < a.length := fun z => k (decide_eq_true z)
    omega
/-- One more candidate. -/
def stO (b : Option TL) (y : TL) : Option TL := match b with | none => some y | some l => if bt y l = true then some y else some l
theorem stO_some (l : List TL) : ∀ b, ∃ r, l.foldl stO (some b) = some r ∧ (r = b ∨ r ∈ l) ∧ (∀ y, y = b ∨ y ∈ l → ¬ bt y r = true) := by
  induction l with
  | nil => exact fun b => ⟨b, rfl, .inl rfl, fun y hy => by
    rcases hy with rfl | h
    · exact bt_irr _
    · cases h⟩
  | cons a l ih =>
    intro b
    have hs : ∀ c, (c = b ∨ c = a) → (∀ y, y = b ∨ y = a → ¬ bt y c = true) → ∃ r, l.foldl stO (some c) = some r ∧ (r = b ∨ r ∈ a :: l) ∧ (∀ y, y = b ∨ y ∈ a :: l → ¬ bt y r = true) := by
      intro c hc hm
      obtain ⟨r, h1, h2, h3⟩ := ih c
      refine ⟨r, h1, ?_, fun y hy => ?_⟩
      · rcases h2 with rfl | h2
        · exact hc.imp id fun e => by rw [e]; exact List.mem_cons_self
        · exact .inr (List.mem_cons_of_mem _ h2)
      · have hcr := h3 c (.inl rfl)
        have hya : y = b ∨ y = a → ¬ bt y r = true := fun hq hyr => by
          -- y is not better than c, c is not better than r
          rcases h2 with rfl | h2
          · exact hm y hq hyr
          · by_cases hrc : bt r c = true
            · exact hm y hq (bt_trans hyr hrc)
            · have e := bt_eq hrc hcr
              have hl : r.length = c.length := by have := congrArg List.length e; simpa using this
              refine hm y hq ?_
              have h5 : ∀ (p q : TL), p.map (·.1) = q.map (·.1) → ∀ y : TL, ltU y p = ltU y q := by
                intro p
                induction p with
                | nil => intro q e y; cases q with | nil => rfl | cons _ _ => cases e
                | cons p1 p ihp =>
                  intro q e y
                  cases q with
                  | nil => cases e
                  | cons q1 q =>
                    rw [List.map_cons, List.map_cons] at e
                    injection e with e1 e2
                    cases y with
                    | nil => rfl
                    | cons y1 y => unfold ltU; rw [e1, ihp q e2 y]
              unfold bt at hyr ⊢
              rw [← hl, ← h5 r c e]
              exact hyr
        rcases hy with rfl | hy
        · exact hya (.inl rfl)
        · rcases List.mem_cons.1 hy with rfl | hy
          · exact hya (.inr rfl)
          · exact h3 y (.inr hy)
    show ∃ r, l.foldl stO (if bt a b = true then some a else some b) = some r ∧ _
    by_cases hab : bt a b = true
    · rw [if_pos hab]
      refine hs a (.inr rfl) fun y hy => ?_
      rcases hy with rfl | rfl
      · exact fun h => bt_irr _ (bt_trans h hab)
      · exact bt_irr _
    · rw [if_neg hab]
      refine hs b (.inl rfl) fun y hy => ?_
      rcases hy with rfl | rfl
      · exact bt_irr _
      · exact hab
theorem stO_swap (A B : List TL) (hu : ∀ a b, a ∈ A ++ B → b ∈ A ++ B → a.map (·.1) = b.map (·.1) → a = b) : (A ++ B).foldl stO none = (B ++ A).foldl stO none := by
  have hne : ∀ l : List TL, (l = [] ∧ l.foldl stO none = none) ∨ ∃ r, l.foldl stO none = some r ∧ r ∈ l ∧ ∀ y ∈ l, ¬ bt y r = true := by
    intro l
    cases l with
    | nil => exact .inl ⟨rfl, rfl⟩
    | cons a l =>
      obtain ⟨r, h1, h2, h3⟩ := stO_some l a
      exact .inr ⟨r, h1, h2.elim (fun e => by rw [e]; exact List.mem_cons_self) (List.mem_cons_of_mem _), fun y hy => h3 y (List.mem_cons.1 hy)⟩
  have hm : ∀ y, y ∈ B ++ A ↔ y ∈ A ++ B := fun y => by rw [List.mem_append, List.mem_append]; exact Or.comm
  rcases hne (A ++ B) with ⟨h1, h2⟩ | ⟨r, h1, h2, h3⟩
  · obtain ⟨rfl, rfl⟩ := List.append_eq_nil_iff.1 h1
    rfl
  · rcases hne (B ++ A) with ⟨k1, k2⟩ | ⟨q, k1, k2, k3⟩
    · have := (hm r).2 h2
      rw [k1] at this; cases this
    · rw [h1, k1]
      exact congrArg some (hu r q h2 ((hm q).1 k2) (bt_eq (k3 r ((hm r).2 h2)) (h3 q ((hm q).1 k2))))
/-- The checks that are candidates, by their terms. -/
def pcs (x : Cd) (hs : List Bool) (u k : Nat) : List TL := ((List.range k).filter fun i => cand x hs u i).map fun i => trC x i u
/-- The candidates in the program's order. -/
noncomputable def pal (x : Cd) (hs : List Bool) (u : Nat) : List TL := pcs x hs u x.par.length ++ (bes0 x hs u).toList
theorem pcs_next (x : Cd) (hs : List Bool) (u k : Nat) : pcs x hs u (k + 1) = if cand x hs u k = true then pcs x hs u k ++ [trC x k u] else pcs x hs u k := by
  unfold pcs
  rw [List.range_succ, List.filter_append]
  by_cases h : cand x hs u k = true
  · rw [if_pos h, List.map_append, List.filter_cons, if_pos h]; rfl
  · rw [if_neg h, List.filter_cons, if_neg h, List.filter_nil, List.append_nil]
theorem besK_fold (x : Cd) (hs : List Bool) (u : Nat) : ∀ k, besK x hs u k = (pcs x hs u k).foldl stO (bes0 x hs u)
  | 0 => rfl
  | k + 1 => by
    rw [besK_next, pcs_next, besK_fold x hs u k]
    unfold stpP
    by_cases h : cand x hs u k = true
    · rw [if_pos h, if_pos h, List.foldl_append]; rfl
    · rw [if_neg h, if_neg h]
/-- The best candidate, whichever order they are taken in. -/
theorem pal_best {x : Cd} {m n : Nat} (h : VC x m n) {hs : List Bool} (hl : hs.length = n + x.par.length) {u : Nat} (hok : okB x hs = true) (hu : u < hs.length) : (pal x hs u).foldl stO none = besK x hs u x.par.length := by
  have hb0 : ∀ b ∈ (bes0 x hs u).toList, bes0 x hs u = some b := fun b hb => by
    cases h0 : bes0 x hs u with
    | none => rw [h0] at hb; cases hb
    | some c => rw [h0] at hb; rw [List.mem_singleton.1 hb]
  have hg : ∀ a ∈ pcs x hs u x.par.length, ∃ i, i < x.par.length ∧ cand x hs u i = true ∧ a = trC x i u := fun a ha => by
    obtain ⟨i, hi, rfl⟩ := List.mem_map.1 ha
    obtain ⟨h1, h2⟩ := List.mem_filter.1 hi
    exact ⟨i, List.mem_range.1 h1, h2, rfl⟩
  have hmem : ∀ i, cand x hs u i = true → u ∈ chk x i := fun i hc => by
    unfold cand at hc
    rw [Bool.and_eq_true, hasZ_nat] at hc
    exact of_decide_eq_true hc.1
  unfold pal
  rw [stO_swap _ _ ?_]
  · rw [besK_fold, List.foldl_append]
    congr 1
    cases bes0 x hs u <;> rfl
  · intro a b ha hb e
    rcases List.mem_append.1 ha with ha | ha
    · obtain ⟨i, hi, hci, rfl⟩ := hg a ha
      rcases List.mem_append.1 hb with hb | hb
      · obtain ⟨k, hk, hck, rfl⟩ := hg b hb
        rw [trC_uniq h (hmem i hci) (hmem k hck) e]
      · have q := hb0 b hb
        exact terms_uniq h (trC_good h hl hi hci) (bes0_good h hok hu q) (bes0_in h hok hu q) e
    · have q := hb0 a ha
      rcases List.mem_append.1 hb with hb | hb
      · obtain ⟨k, hk, hck, rfl⟩ := hg b hb
        exact (terms_uniq h (trC_good h hl hk hck) (bes0_good h hok hu q) (bes0_in h hok hu q) e.symm).symm
      · have q2 := hb0 b hb
        rw [q] at q2
        injection q2
theorem pal_len (x : Cd) (hs : List Bool) (u : Nat) : (pal x hs u).length ≤ x.par.length + 1 := by
  unfold pal pcs
  rw [List.length_append, List.length_map]
  have h1 := List.length_filter_le (fun i => cand x hs u i) (List.range x.par.length)
  rw [List.length_range] at h1
  have h2 : (bes0 x hs u).toList.length ≤ 1 := by cases bes0 x hs u <;> simp
  omega
end Go.Proofs.YtklngodlijiccaaDoor
