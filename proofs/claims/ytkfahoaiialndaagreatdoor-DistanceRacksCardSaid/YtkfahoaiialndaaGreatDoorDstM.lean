/-
  The code that remains when the present data units are taken out of the parity units: it decodes just when the code itself does (suff_rest, suff_none). No program stands behind this text.
-/
import Derived.Test.YtkfahoaiialndaaGreatDoorDstB
namespace Go.Proofs.YtkfahoaiialndaaGreatDoor
set_option linter.unusedVariables false
set_option linter.unusedSimpArgs false

theorem getD_lt {α : Type} {l : List α} {d : α} {i : Nat} (h : i < l.length) : l.getD i d = l[i] := by simp [List.getD_eq_getElem?_getD, h]
theorem dep_zero {m n p : Nat} {V : Mx} {r : Nat → Nat} (h : ∀ j, j < n → r j = 0) : Dep m n p V r := ⟨fun _ => 0, fun _ => Nat.two_pow_pos m, fun j hj => by rw [h j hj, cb_zero m p V _ (fun _ _ => rfl)]⟩
/-- The present rows; the others are zero. -/
def msk (G : Mx) (hs : List Bool) : Mx := fun u j => if hs.getD u false = true then G u j else 0
theorem msk_v {m : Nat} {G : Mx} (hG : Vm m G) (hs : List Bool) : Vm m (msk G hs) := fun u j => by
  unfold msk; split; exact hG u j; exact Nat.two_pow_pos m
theorem gC_unit {x : Cd} {m n : Nat} (h : VC x m n) {i : Nat} (hi : i < n) (j : Nat) : gC x i j = if i = j then 1 else 0 := by unfold gC; rw [h.dn, if_pos hi]
theorem hs_lt {hs : List Bool} {i : Nat} (h : hs.getD i false = true) : i < hs.length := Nat.lt_of_not_le fun hge => by
  rw [List.getD_eq_getElem?_getD, List.getElem?_eq_none hge] at h; cases h
theorem sp_iff {x : Cd} {m n : Nat} (h : VC x m n) {hs : List Bool} (hl : hs.length = n + x.par.length) :
    dcX x hs = true ↔ ∀ j, j < n → Dep m n (n + x.par.length) (msk (gC x) hs) fun i => if j = i then 1 else 0 := by
  have hG := gC_v h
  have hM := msk_v (hs := hs) hG
  rw [dcX_vc h hl]
  constructor
  · intro hn j hj
    have h1 := (all_recov h hl).2 hn j (by omega)
    rw [recov_vc h] at h1
    refine (Dep.trans h.fm hM h1 fun k hk => ?_).congr (fun _ _ _ _ => rfl) fun i hi => gC_unit h hj i
    rw [basL_vc h] at hk ⊢
    obtain ⟨h2, h3⟩ := bas_at hk
    refine (Dep.mem h.fm hM (t := (bas m n (gC x) (hvF hs) hs.length).getD k 0) (by omega)).congr (fun _ _ _ _ => rfl) fun i hi => ?_
    unfold msk
    rw [if_pos h3]
  · intro hall
    have h1 := bas_le (n := n) (hv := hvF hs) h.fm hG hs.length
    rw [← basL_vc h] at h1
    refine Nat.le_antisymm h1 ?_
    have hI : Ind m n n idm := fun c hc h0 k hk => by
      have := h0 k hk
      unfold cb at this
      rw [sm_one hk (fun i _ hne => by unfold idm; rw [if_neg hne, mul_zeroR])] at this
      unfold idm at this
      rw [if_pos rfl, mul_oneR h.fm] at this
      exact this
    refine Ind.exchange (U := sel (gC x) (basL x hs)) h.fm (idm_v h.fm) (fun i j => hG _ j) hI fun k hk => ?_
    refine (Dep.trans h.fm (fun i j => hG _ j) (hall k hk) fun u hu => ?_).congr (fun _ _ _ _ => rfl) fun i hi => rfl
    by_cases hp : hs.getD u false = true
    · have := bas_span (m := m) (n := n) (G := gC x) (hv := hvF hs) h.fm hG hs.length u (by omega) hp
      rw [← basL_vc h] at this
      refine this.congr (fun _ _ _ _ => rfl) fun i hi => ?_
      unfold msk; rw [if_pos hp]
    · exact dep_zero fun j hj => by unfold msk; rw [if_neg hp]

/-- The missing data units among the first k. -/
def misK (hs : List Bool) (k : Nat) : List Nat := (List.range k).filter fun u => !hs.getD u false
theorem misK_next (hs : List Bool) (k : Nat) : misK hs (k + 1) = if hs.getD k false = true then misK hs k else misK hs k ++ [k] := by
  unfold misK
  rw [List.range_succ, List.filter_append]
  by_cases h : hs.getD k false = true
  · rw [if_pos h, List.filter_cons, if_neg (by rw [h]; decide)]; simp
  · rw [if_neg h, List.filter_cons, if_pos (by rw [Bool.eq_false_iff.2 h]; rfl)]; simp
theorem misK_mem (hs : List Bool) (k u : Nat) : u ∈ misK hs k ↔ u < k ∧ hs.getD u false = false := by
  unfold misK; rw [List.mem_filter, List.mem_range, Bool.not_eq_true']
theorem misK_nodup (hs : List Bool) (k : Nat) : (misK hs k).Nodup := List.Pairwise.imp (fun h => Nat.ne_of_lt h) (List.pairwise_lt_range.filter _)
theorem misK_len (hs : List Bool) (k : Nat) : (misK hs k).length ≤ k := by
  have := List.length_filter_le (fun u => !hs.getD u false) (List.range k)
  rwa [List.length_range] at this
def pickL (l : List Int) (M : List Nat) : List Int := M.map fun j => l.getD j 0
/-- Is this parity unit present, with a coefficient of a missing data unit? -/
def keepB (x : Cd) (hs : List Bool) (M : List Nat) (n i : Nat) : Bool := hs.getD (n + i) false && (pickL (x.par.getD i []) M).any fun a => decide (a ≠ 0)
def idxK (x : Cd) (hs : List Bool) (M : List Nat) (n k : Nat) : List Nat := (List.range k).filter (keepB x hs M n)
theorem idxK_next (x : Cd) (hs : List Bool) (M : List Nat) (n k : Nat) : idxK x hs M n (k + 1) = if keepB x hs M n k = true then idxK x hs M n k ++ [k] else idxK x hs M n k := by
  unfold idxK
  rw [List.range_succ, List.filter_append]
  by_cases h : keepB x hs M n k = true
  · rw [if_pos h]; simp [h]
  · rw [if_neg h]; simp [h]
theorem idxK_len (x : Cd) (hs : List Bool) (M : List Nat) (n k : Nat) : (idxK x hs M n k).length ≤ k := by
  have := List.length_filter_le (keepB x hs M n) (List.range k)
  rwa [List.length_range] at this
def rowsK (x : Cd) (hs : List Bool) (M : List Nat) (n k : Nat) : List (List Int) := (idxK x hs M n k).map fun i => pickL (x.par.getD i []) M
/-- The code that remains. -/
def restX (x : Cd) (hs : List Bool) (M : List Nat) (n k : Nat) : Cd := ⟨[], x.field, (M.length : Int), rowsK x hs M n k, 0⟩
theorem restX_len (x : Cd) (hs : List Bool) (M : List Nat) (n k : Nat) : (restX x hs M n k).par.length = (idxK x hs M n k).length := by
  show (rowsK x hs M n k).length = _
  unfold rowsK; rw [List.length_map]
theorem pickL_at (l : List Int) (M : List Nat) {s : Nat} (hs : s < M.length) : (pickL l M).getD s 0 = l.getD (M.getD s 0) 0 := by
  unfold pickL
  rw [List.getD_eq_getElem?_getD, List.getElem?_map, List.getElem?_eq_getElem hs, getD_lt hs]
  rfl
section
variable {x : Cd} {m n : Nat} {hs : List Bool} (h : VC x m n)
include h
theorem restX_vc (hne : misK hs n ≠ []) : VC (restX x hs (misK hs n) n x.par.length) m (misK hs n).length where
  fm := h.fm
  f := h.f
  d := rfl
  pos := List.length_pos_iff.2 hne
  wid := by have := misK_len hs n; have := idxK_len x hs (misK hs n) n x.par.length; have := h.wid; rw [restX_len]; omega
  row := fun l hl => by
    obtain ⟨i, hi, rfl⟩ := List.mem_map.1 hl
    unfold idxK at hi
    rw [List.mem_filter, List.mem_range] at hi
    have hk := hi.2
    unfold keepB at hk
    rw [Bool.and_eq_true] at hk
    refine ⟨by unfold pickL; rw [List.length_map], fun a ha => ?_, ?_⟩
    · unfold pickL at ha
      obtain ⟨j, hj, rfl⟩ := List.mem_map.1 ha
      have hj2 := ((misK_mem hs n j).1 hj).1
      rw [getD_lt hi.1]
      have hr := h.row _ (List.getElem_mem hi.1)
      rw [getD_lt (by omega)]
      exact hr.2.1 _ (List.getElem_mem _)
    · obtain ⟨a, ha, h2⟩ := List.any_eq_true.1 hk.2
      exact ⟨a, ha, of_decide_eq_true h2⟩
theorem gC_rest {s t : Nat} (hs' : s < (misK hs n).length) (ht : t < (idxK x hs (misK hs n) n x.par.length).length) :
    gC (restX x hs (misK hs n) n x.par.length) ((misK hs n).length + t) s = gC x (n + (idxK x hs (misK hs n) n x.par.length).getD t 0) ((misK hs n).getD s 0) := by
  unfold gC
  rw [show (restX x hs (misK hs n) n x.par.length).data.toNat = (misK hs n).length from Int.toNat_natCast _, h.dn, if_neg (by omega), if_neg (by omega)]
  rw [show (misK hs n).length + t - (misK hs n).length = t by omega, show n + (idxK x hs (misK hs n) n x.par.length).getD t 0 - n = (idxK x hs (misK hs n) n x.par.length).getD t 0 by omega]
  congr 1
  show ((rowsK x hs (misK hs n) n x.par.length).getD t []).getD s 0 = _
  rw [show (rowsK x hs (misK hs n) n x.par.length).getD t [] = pickL (x.par.getD ((idxK x hs (misK hs n) n x.par.length).getD t 0) []) (misK hs n) by
    unfold rowsK
    rw [List.getD_eq_getElem?_getD, List.getElem?_map, List.getElem?_eq_getElem ht, getD_lt ht]
    rfl]
  exact pickL_at _ _ hs'
/-- All parity units of the rest are present, and no data unit. -/
abbrev hsR (k r : Nat) : List Bool := List.replicate k false ++ List.replicate r true
omit h in
theorem hsR_lo {k r u : Nat} (hu : u < k) : (hsR k r).getD u false = false := by
  rw [List.getD_eq_getElem?_getD, List.getElem?_append_left (by simpa using hu), List.getElem?_replicate, if_pos hu]; rfl
omit h in
theorem hsR_hi {k r t : Nat} (ht : t < r) : (hsR k r).getD (k + t) false = true := by
  rw [List.getD_eq_getElem?_getD, List.getElem?_append_right (by simp), List.getElem?_replicate, List.length_replicate, if_pos (by omega)]; rfl
theorem suff_none (hl : hs.length = n + x.par.length) (he : misK hs n = []) : dcX x hs = true := by
  rw [sp_iff h hl]
  intro j hj
  have hp : hs.getD j false = true := by
    refine Bool.not_eq_false _ ▸ fun q => ?_
    have := (misK_mem hs n j).2 ⟨hj, q⟩
    rw [he] at this
    cases this
  refine (Dep.mem h.fm (msk_v (gC_v h) hs) (t := j) (by omega)).congr (fun _ _ _ _ => rfl) fun i _ => ?_
  unfold msk
  rw [if_pos hp, gC_unit h hj]
theorem suff_rest (hl : hs.length = n + x.par.length) (hne : misK hs n ≠ []) :
    dcX (restX x hs (misK hs n) n x.par.length) (hsR (misK hs n).length (idxK x hs (misK hs n) n x.par.length).length) = dcX x hs := by
  have hR := restX_vc (hs := hs) h hne
  have hG := gC_v h
  have hG' := gC_v hR
  have hlen := restX_len x hs (misK hs n) n x.par.length
  have hil := idxK_len x hs (misK hs n) n x.par.length
  have hMl : ∀ s, s < (misK hs n).length → (misK hs n).getD s 0 < n ∧ hs.getD ((misK hs n).getD s 0) false = false := fun s hs' => by
    rw [getD_lt hs']; exact (misK_mem hs n _).1 (List.getElem_mem hs')
  have hMi : ∀ s t, s < (misK hs n).length → t < (misK hs n).length → (misK hs n).getD s 0 = (misK hs n).getD t 0 → s = t := fun s t h1 h2 e => by
    rw [getD_lt h1, getD_lt h2] at e
    rcases Nat.lt_trichotomy s t with q | q | q
    · exact absurd e (List.pairwise_iff_getElem.1 (misK_nodup hs n) s t h1 h2 q)
    · exact q
    · exact absurd e.symm (List.pairwise_iff_getElem.1 (misK_nodup hs n) t s h2 h1 q)
  have hIl : ∀ t, t < (idxK x hs (misK hs n) n x.par.length).length → (idxK x hs (misK hs n) n x.par.length).getD t 0 < x.par.length ∧ hs.getD (n + (idxK x hs (misK hs n) n x.par.length).getD t 0) false = true := fun t ht => by
    rw [getD_lt ht]
    have := List.getElem_mem ht
    generalize (idxK x hs (misK hs n) n x.par.length)[t] = i at this
    unfold idxK at this
    rw [List.mem_filter, List.mem_range] at this
    have hk := this.2
    unfold keepB at hk
    rw [Bool.and_eq_true] at hk
    exact ⟨this.1, hk.1⟩
  have hgr := fun s t h1 h2 => gC_rest (s := s) (t := t) (hs := hs) h h1 h2
  have hIm : ∀ i, i < x.par.length → keepB x hs (misK hs n) n i = true → ∃ t, t < (idxK x hs (misK hs n) n x.par.length).length ∧ (idxK x hs (misK hs n) n x.par.length).getD t 0 = i := fun i hi hk => by
    have : i ∈ idxK x hs (misK hs n) n x.par.length := List.mem_filter.2 ⟨List.mem_range.2 hi, hk⟩
    obtain ⟨t, ht, e⟩ := List.getElem_of_mem this
    exact ⟨t, ht, by rw [getD_lt ht, e]⟩
  have hMm : ∀ j, j < n → hs.getD j false = false → ∃ t, t < (misK hs n).length ∧ (misK hs n).getD t 0 = j := fun j hj hp => by
    obtain ⟨t, ht, e⟩ := List.getElem_of_mem ((misK_mem hs n j).2 ⟨hj, hp⟩)
    exact ⟨t, ht, by rw [getD_lt ht, e]⟩
  have hkz : ∀ i, i < x.par.length → hs.getD (n + i) false = true → keepB x hs (misK hs n) n i = false → ∀ s, s < (misK hs n).length → gC x (n + i) ((misK hs n).getD s 0) = 0 := fun i hi hp hk s hs' => by
    unfold keepB at hk
    rw [hp, Bool.true_and] at hk
    have h1 := List.any_eq_false.1 hk ((pickL (x.par.getD i []) (misK hs n)).getD s 0) (by
      have hlt : s < (pickL (x.par.getD i []) (misK hs n)).length := by unfold pickL; rwa [List.length_map]
      rw [getD_lt hlt]; exact List.getElem_mem hlt)
    rw [pickL_at _ _ hs'] at h1
    have h2 : (x.par.getD i []).getD ((misK hs n).getD s 0) 0 = 0 := Classical.byContradiction fun q => h1 (decide_eq_true q)
    unfold gC
    rw [h.dn, if_neg (by omega), show n + i - n = i by omega, h2]
    rfl
  rw [Bool.eq_iff_iff, sp_iff hR (by simp only [List.length_append, List.length_replicate]; omega), sp_iff h hl, hlen]
  generalize restX x hs (misK hs n) n x.par.length = X at *
  generalize idxK x hs (misK hs n) n x.par.length = I at *
  generalize misK hs n = M at *
  have hM := msk_v (hs := hs) hG
  have hM' := msk_v (hs := hsR M.length I.length) hG'
  constructor
  · intro H j hj
    by_cases hp : hs.getD j false = true
    · refine (Dep.mem h.fm hM (t := j) (by omega)).congr (fun _ _ _ _ => rfl) fun i _ => ?_
      unfold msk
      rw [if_pos hp, gC_unit h hj]
    · obtain ⟨t, ht, rfl⟩ := hMm j hj (Bool.eq_false_iff.2 hp)
      obtain ⟨c, hc, hce⟩ := H t ht
      obtain ⟨W, hW⟩ : ∃ W : Mx, W = fun u i => if u < M.length then 0 else msk (gC x) hs (n + I.getD (u - M.length) 0) i := ⟨_, rfl⟩
      have hWv : Vm m W := fun u i => by rw [hW]; show (if _ then _ else _) < _; split; exact Nat.two_pow_pos m; exact hM _ _
      have hv : Vv m (cb m (M.length + I.length) W c) := fun j => sm_lt fun k _ => mul_lt h.fm _ (hc k)
      have D1 : Dep m n (n + x.par.length) (msk (gC x) hs) (cb m (M.length + I.length) W c) := by
        refine Dep.trans h.fm hM ⟨c, hc, fun _ _ => rfl⟩ fun u hu => ?_
        by_cases hul : u < M.length
        · exact dep_zero fun i _ => by rw [hW]; show (if _ then _ else _) = _; rw [if_pos hul]
        · have := hIl (u - M.length) (by omega)
          refine (Dep.mem h.fm hM (t := n + I.getD (u - M.length) 0) (by omega)).congr (fun _ _ _ _ => rfl) fun i _ => ?_
          rw [hW]; show _ = (if _ then _ else _); rw [if_neg hul]
      have D2 : Dep m n (n + x.par.length) (msk (gC x) hs) fun i => if hs.getD i false = true then cb m (M.length + I.length) W c i else 0 := by
        have e : Dep m n n (fun u i => if hs.getD u false = true then (if u = i then 1 else 0) else 0) fun i => if hs.getD i false = true then cb m (M.length + I.length) W c i else 0 := by
          refine ⟨cb m (M.length + I.length) W c, hv, fun i hi => ?_⟩
          show _ = sm n fun u => mul m (cb m (M.length + I.length) W c u) (if hs.getD u false = true then (if u = i then 1 else 0) else 0)
          rw [sm_one hi (fun u _ hne => by
            by_cases q : hs.getD u false = true
            · rw [if_pos q, if_neg hne, mul_zeroR]
            · rw [if_neg q, mul_zeroR])]
          show (if hs.getD i false = true then _ else _) = _
          by_cases q : hs.getD i false = true
          · rw [if_pos q, if_pos q, if_pos rfl, mul_oneR h.fm]
          · rw [if_neg q, if_neg q, mul_zeroR]
        refine Dep.trans h.fm hM e fun u hu => ?_
        by_cases q : hs.getD u false = true
        · refine (Dep.mem h.fm hM (t := u) (by omega)).congr (fun _ _ _ _ => rfl) fun i _ => ?_
          show msk (gC x) hs u i = if hs.getD u false = true then (if u = i then 1 else 0) else 0
          unfold msk
          rw [if_pos q, if_pos q, gC_unit h hu]
        · exact dep_zero fun i _ => by show (if _ then _ else _) = _; rw [if_neg q]
      refine (D1.add D2).congr (fun _ _ _ _ => rfl) fun i hi => ?_
      show cb m (M.length + I.length) W c i ^^^ (if hs.getD i false = true then cb m (M.length + I.length) W c i else 0) = _
      by_cases q : hs.getD i false = true
      · have hne : ¬ M.getD t 0 = i := fun e => by have := (hMl t ht).2; rw [e, q] at this; cases this
        rw [if_pos q, if_neg hne, Nat.xor_self]
      · obtain ⟨s, hs', rfl⟩ := hMm i hi (Bool.eq_false_iff.2 q)
        rw [if_neg q, Nat.xor_zero]
        have h1 : (if t = s then 1 else 0) = cb m (M.length + I.length) (msk (gC X) (hsR M.length I.length)) c s := hce s hs'
        rw [show (if M.getD t 0 = M.getD s 0 then 1 else 0) = (if t = s then 1 else 0) by
          by_cases e : t = s
          · rw [if_pos e, if_pos (by rw [e])]
          · rw [if_neg e, if_neg (fun q => e (hMi t s ht hs' q))], h1]
        show sm _ _ = sm _ _
        refine sm_congr fun u hu => ?_
        congr 1
        rw [hW]
        show (if _ then _ else _) = msk (gC X) _ u s
        by_cases hul : u < M.length
        · rw [if_pos hul]; unfold msk; rw [hsR_lo hul]; rfl
        · obtain ⟨t', rfl⟩ : ∃ t', u = M.length + t' := ⟨u - M.length, by omega⟩
          have h2 := hIl t' (by omega)
          rw [if_neg hul, show M.length + t' - M.length = t' by omega]
          unfold msk
          rw [hsR_hi (by omega), if_pos h2.2, if_pos rfl, hgr s t' hs' (by omega)]
  · intro H t ht
    obtain ⟨c, hc, hce⟩ := H (M.getD t 0) (hMl t ht).1
    have h1 : Dep m M.length (n + x.par.length) (fun u s => msk (gC x) hs u (M.getD s 0)) fun s => if t = s then 1 else 0 := ⟨c, hc, fun s hs' => by
      have : (if M.getD t 0 = M.getD s 0 then 1 else 0) = cb m (n + x.par.length) (msk (gC x) hs) c (M.getD s 0) := hce (M.getD s 0) (hMl s hs').1
      rw [show (if M.getD t 0 = M.getD s 0 then 1 else 0) = (if t = s then 1 else 0) by
          by_cases e : t = s
          · rw [if_pos e, if_pos (by rw [e])]
          · rw [if_neg e, if_neg (fun q => e (hMi t s ht hs' q))]] at this
      exact this⟩
    refine Dep.trans h.fm hM' h1 fun u hu => ?_
    by_cases hp : hs.getD u false = true
    · by_cases hun : u < n
      · refine dep_zero fun s hs' => ?_
        show msk (gC x) hs u (M.getD s 0) = 0
        unfold msk
        rw [if_pos hp, gC_unit h hun, if_neg fun e => by have := (hMl s hs').2; rw [← e, hp] at this; cases this]
      · obtain ⟨i, rfl⟩ : ∃ i, u = n + i := ⟨u - n, by omega⟩
        by_cases hk : keepB x hs M n i = true
        · obtain ⟨t', ht', rfl⟩ := hIm i (by omega) hk
          refine (Dep.mem h.fm hM' (t := M.length + t') (by omega)).congr (fun _ _ _ _ => rfl) fun s hs' => ?_
          show msk (gC X) _ (M.length + t') s = msk (gC x) hs _ (M.getD s 0)
          unfold msk
          rw [hsR_hi ht', if_pos rfl, if_pos hp, hgr s t' hs' ht']
        · refine dep_zero fun s hs' => ?_
          show msk (gC x) hs _ (M.getD s 0) = 0
          unfold msk
          rw [if_pos hp, hkz i (by omega) hp (Bool.eq_false_iff.2 hk) s hs']
    · exact dep_zero fun s _ => by show msk (gC x) hs u _ = 0; unfold msk; rw [if_neg hp]
end

end Go.Proofs.YtkfahoaiialndaaGreatDoor
