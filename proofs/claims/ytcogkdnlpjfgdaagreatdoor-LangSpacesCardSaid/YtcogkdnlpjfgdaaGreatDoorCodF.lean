/-
  What a text says of a code, where the grammar is met: numbers are numbers, keys are keys. No program stands behind this text.
-/
import Derived.Test.YtcogkdnlpjfgdaaGreatDoorCodE
namespace Go.Proofs.YtcogkdnlpjfgdaaGreatDoor
open Go.RowKit
set_option linter.unusedVariables false
set_option linter.unusedSimpArgs false

def NumK (l : List Tk) (x : Tk) : Prop := x.kd = 2 ∧ x ∈ l
theorem kind_num {l : List Tk} {s : PS} (h : (kindP l 2 s).bad < 0) : NumK l (cur l s) := by
  have h1 := kindP_ok h
  refine ⟨h1.2.1, ?_⟩
  rcases cur_or l s with q | q
  · exact q
  · rw [q] at h1; exact absurd h1.2.1 (by decide)
theorem one_num {l : List Tk} {k : Bs} {s : PS} (h : (oneP l k s).2.bad < 0) : NumK l (cur l (mustP l k s)) := kind_num (mustP_ok h).1
theorem numsG_num (l : List Tk) : ∀ (f : Nat) (s : PS) (out : List Tk), (∀ x ∈ out, NumK l x) → (numsG l f s out).2.bad < 0 → (∀ x ∈ (numsG l f s out).1, NumK l x) ∧ (numsG l f s out).1.length ≤ out.length + f
  | 0, s, out, ho, _ => ⟨ho, Nat.le_refl _⟩
  | f + 1, s, out, ho, h => by
    rw [numsG] at h ⊢
    split
    · rename_i hc
      rw [if_pos hc] at h
      have h1 := numsG_ok l f _ _ h
      have := numsG_num l f _ (out ++ [cur l s]) (fun x hx => by
        rcases List.mem_append.1 hx with q | q
        · exact ho x q
        · rw [List.mem_singleton] at q; rw [q]; exact kind_num h1) h
      refine ⟨this.1, ?_⟩
      have h2 := this.2
      rw [List.length_append] at h2
      simp at h2
      omega
    · exact ⟨ho, by show out.length ≤ out.length + (f + 1); omega⟩
theorem nums_num {l : List Tk} {s : PS} (h : (numsP l s).2.bad < 0) : (∀ x ∈ (numsP l s).1, NumK l x) ∧ (numsP l s).1.length ≤ l.length + 2 := by
  have h1 := numsG_ok l _ _ _ h
  have := numsG_num l (l.length + 1) (kindP l 2 s) [cur l s] (fun x hx => by rw [List.mem_singleton] at hx; rw [hx]; exact kind_num h1) h
  refine ⟨this.1, ?_⟩
  have h2 : (numsP l s).1.length ≤ 1 + (l.length + 1) := this.2
  omega
/-- A row whose numbers are numbers. -/
structure RowG (l : List Tk) (x : Ln) : Prop where
  key : x.key.tx = kLocal ∨ x.key.tx = kParity
  a : ∀ y ∈ x.a, NumK l y
  b : ∀ y ∈ x.b, NumK l y
  la : x.a.length ≤ l.length + 2
  lb : x.b.length ≤ l.length + 2
theorem row_good {l : List Tk} {s : PS} (h : (rowP l s).2.bad < 0) : RowG l (rowP l s).1 := by
  unfold rowP at h ⊢
  split at h
  · rename_i hl
    rw [if_pos hl]
    have h1 := mustP_ok h
    have h2 := nums_num h1.1
    have h3 := mustP_ok (numsP_ok h1.1)
    have h4 := nums_num h3.1
    exact ⟨.inl (isP_is hl).2.2, h4.1, h2.1, h4.2, h2.2⟩
  · rename_i hl
    rw [if_neg hl]
    have h1 := mustP_ok h
    have h2 := nums_num h1.1
    have h3 := mustP_ok (numsP_ok h1.1)
    exact ⟨.inr (isP_is h3.2.1).2.2, h2.1, fun y hy => by simp at hy, h2.2, by simp⟩
theorem rows_good (l : List Tk) : ∀ (f : Nat) (b : Bool) (s : PS) (out : List Ln), (∀ x ∈ out, RowG l x) → (rowsG l f b s out).2.bad < 0 → s.bad < 0 ∧ (∀ x ∈ (rowsG l f b s out).1, RowG l x) ∧ (rowsG l f b s out).1.length ≤ out.length + f
  | 0, b, s, out, ho, h => ⟨h, ho, Nat.le_refl _⟩
  | f + 1, b, s, out, ho, h => by
    rw [rowsG] at h ⊢
    split
    · rename_i hc
      rw [if_pos hc] at h
      have hx : (rowP l s).2.bad < 0 := (rowsG_ok l f false _ _ h).1
      have := rows_good l f false _ (out ++ [(rowP l s).1]) (fun x hx' => by
        rcases List.mem_append.1 hx' with q | q
        · exact ho x q
        · rw [List.mem_singleton] at q; rw [q]; exact row_good hx) h
      refine ⟨hc.1, this.2.1, ?_⟩
      have h2 := this.2.2
      rw [List.length_append] at h2
      simp at h2
      omega
    · rename_i hc
      rw [if_neg hc] at h
      exact ⟨h, ho, by show out.length ≤ out.length + (f + 1); omega⟩
/-- A definition that the grammar lets through. -/
structure DefG (l : List Tk) (S : PS) : Prop where
  nm : (defP l S).1.nm.kd = 1
  kf : (cur l (dS2 l S)).tx = kField
  kd : (cur l (dS3 l S)).tx = kData
  km : (defP l S).1.dm ≠ none → (cur l (dR l S).2).tx = kDomain
  f : NumK l (defP l S).1.f
  d : NumK l (defP l S).1.d
  m : ∀ x, (defP l S).1.dm = some x → NumK l x
  rows : ∀ x ∈ (defP l S).1.rows, RowG l x
  lrows : (defP l S).1.rows.length ≤ l.length + 1
  bad : S.bad < 0
theorem def_good {l : List Tk} {S : PS} (h : (defP l S).2.bad < 0) : DefG l S := by
  have h1 := mustP_ok (show (mustP l [125] (dE l (dR l S).2).2).bad < 0 from h)
  have hE : (dR l S).2.bad < 0 ∧ ((defP l S).1.dm ≠ none → (cur l (dR l S).2).tx = kDomain) ∧ (∀ x, (defP l S).1.dm = some x → NumK l x) := by
    have h2 := h1.1
    show (dR l S).2.bad < 0 ∧ ((dE l (dR l S).2).1 ≠ none → (cur l (dR l S).2).tx = kDomain) ∧ (∀ x, (dE l (dR l S).2).1 = some x → NumK l x)
    unfold dE at h2 ⊢
    split at h2
    · rename_i hd
      rw [if_pos hd]
      have h3 := oneP_ok h2
      refine ⟨h3.1, fun _ => h3.2.1, fun x hx => ?_⟩
      injection hx with hx
      rw [← hx]
      exact one_num h2
    · rename_i hd
      rw [if_neg hd]
      exact ⟨h2, fun q => absurd rfl q, fun x hx => by cases hx⟩
  have hR := rows_good l (l.length + 1) true (dS4 l S) [] (fun x hx => by simp at hx) hE.1
  have h4 := oneP_ok (show (oneP l kData (dS3 l S)).2.bad < 0 from hR.1)
  have h3 := oneP_ok (show (oneP l kField (dS2 l S)).2.bad < 0 from h4.1)
  have h2 := mustP_ok (show (mustP l [123] (kindP l 1 (dS1 l S))).bad < 0 from h3.1)
  have h0 := kindP_ok h2.1
  have hm := mustP_ok (show (mustP l kCode S).bad < 0 from h0.1)
  exact ⟨h0.2.1, h3.2.1, h4.2.1, hE.2.1, one_num (show (oneP l kField (dS2 l S)).2.bad < 0 from h4.1), one_num (show (oneP l kData (dS3 l S)).2.bad < 0 from hR.1), hE.2.2, hR.2.1, by
    have := hR.2.2
    simp at this
    exact this, hm.1⟩
theorem numT_k {t : Bs} {x : Tk} (h : NumK (toks t) x) : NumT x := by
  obtain ⟨i, hi, hx⟩ := List.getElem_of_mem h.2
  have hk := toks_kd (t := t) (i := i) (x := x) (by rw [List.getElem?_eq_getElem hi, hx]) (by rw [h.1]; decide)
  exact numT_of hk.1 h.1
/-- The meaning of a text's code, by the reference and by the program. -/
theorem code_is {l : List Tk} {S : PS} (h : (defP l S).2.bad < 0) : buildS (codeP l S).1 = codeD (defP l S).1 := by
  have hg := def_good h
  rw [codeP_def]
  exact build_code _ _ _ _ hg.kf hg.kd hg.km (fun y hy => (hg.rows y hy).key)
theorem parse_is (t : Bs) : parseC t = if 2000 < t.length then (cd0, 0, 2) else if 0 ≤ (kindP (toks t) 4 (defP (toks t) ⟨0, -1⟩).2).bad then (cd0, (kindP (toks t) 4 (defP (toks t) ⟨0, -1⟩).2).bad, 3)
    else ((codeD (defP (toks t) ⟨0, -1⟩).1).1, ((codeD (defP (toks t) ⟨0, -1⟩).1).2.1 : Int), (codeD (defP (toks t) ⟨0, -1⟩).1).2.2) := by
  have h2 : (codeP (toks t) ⟨0, -1⟩).2 = (defP (toks t) ⟨0, -1⟩).2 := by rw [codeP_def]
  unfold parseC
  rw [h2]
  by_cases q1 : 2000 < t.length
  · rw [if_pos q1, if_pos q1]
  · rw [if_neg q1, if_neg q1]
    by_cases q2 : 0 ≤ (kindP (toks t) 4 (defP (toks t) ⟨0, -1⟩).2).bad
    · rw [if_pos q2, if_pos q2]
    · rw [if_neg q2, if_neg q2]
      have h3 := kindP_ok (show (kindP (toks t) 4 (defP (toks t) ⟨0, -1⟩).2).bad < 0 by omega)
      rw [code_is h3.1]

theorem codeD_ok {x : Df} (h : (codeD x).2.2 = 0) : (codeD x).2.1 = 0 := by
  have one : ¬ (1 : Int) = 0 := by decide
  have two : ¬ (2 : Int) = 0 := by decide
  unfold codeD at h ⊢
  split
  · rename_i q; rw [if_pos q] at h; exact absurd h two
  · rename_i q; rw [if_neg q] at h
    split
    · rename_i q; rw [if_pos q] at h; exact absurd h one
    · rename_i q; rw [if_neg q] at h
      split
      · rename_i q; rw [if_pos q] at h; exact absurd h one
      · rename_i q; rw [if_neg q] at h
        split
        · rename_i q; rw [if_pos q] at h; exact absurd h q
        · rename_i q; rw [if_neg q] at h
          unfold domD at h ⊢
          split
          · rfl
          · rename_i m hm
            rw [hm] at h
            dsimp only at h
            split
            · rename_i q; rw [if_pos q] at h; exact absurd h one
            · rfl

end Go.Proofs.YtcogkdnlpjfgdaaGreatDoor
