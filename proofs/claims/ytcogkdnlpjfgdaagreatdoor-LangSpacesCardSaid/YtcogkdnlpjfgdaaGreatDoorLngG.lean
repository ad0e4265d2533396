/-
  How the program reads tokens, as plain functions: gaps, the size of a token, what kind of token a text is. No program stands behind this text.
-/
import Derived.Test.YtcogkdnlpjfgdaaGreatDoorLngF
namespace Go.Proofs.YtcogkdnlpjfgdaaGreatDoor
set_option linter.unusedVariables false
set_option linter.unusedSimpArgs false

theorem nk {a b : Nat} {P : Prop} (d : decide (a = b) = false) (h : a = b) : P := absurd h (of_decide_eq_false d)
/-- What follows a gap. -/
def gapD (r : Bs) : Bs := r.drop (skp false r)
/-- What follows the first newline. -/
def cutN : Bs → Bs
  | [] => []
  | c :: r => if c = 10 then r else cutN r
theorem cutN_len : ∀ r : Bs, (cutN r).length ≤ r.length
  | [] => Nat.le_refl _
  | c :: r => by
    have := cutN_len r
    rw [cutN]
    split
    · simp
    · simp only [List.length_cons]; omega
theorem cutN_lt {c : UInt8} {r : Bs} : (cutN (c :: r)).length < (c :: r).length := by
  have := cutN_len r
  rw [cutN]
  simp only [List.length_cons]
  split <;> omega
theorem gapD_nil : gapD [] = [] := rfl
theorem gapD_blank {c : UInt8} {r : Bs} (h : blank c = true) : gapD (c :: r) = gapD r := by
  unfold gapD
  rw [skp, if_pos h, Nat.add_comm, List.drop_succ_cons]
theorem gapD_true : ∀ r : Bs, r.drop (skp true r) = gapD (cutN r)
  | [] => rfl
  | c :: r => by
    rw [skp, cutN]
    split
    · rw [Nat.add_comm, List.drop_succ_cons]; rfl
    · rw [Nat.add_comm, List.drop_succ_cons]; exact gapD_true r
theorem gapD_hash (r : Bs) : gapD (35 :: r) = gapD (cutN (35 :: r)) := by
  have h : cutN (35 :: r) = cutN r := by rw [cutN, if_neg (by decide)]
  rw [h, ← gapD_true]
  unfold gapD
  rw [skp, if_neg (by decide), if_pos rfl, Nat.add_comm, List.drop_succ_cons]
theorem gapD_tw : ∀ r : Bs, gapD (r.dropWhile blank) = gapD r
  | [] => rfl
  | c :: r => by
    rw [List.dropWhile_cons]
    split
    · rename_i h
      rw [gapD_tw r, gapD_blank h]
    · rfl
theorem gapD_stop {r : Bs} (h : ∀ c x, r = c :: x → blank c = false ∧ c ≠ 35) : gapD r = r := by
  cases r with
  | nil => rfl
  | cons c x =>
    obtain ⟨h1, h2⟩ := h c x rfl
    unfold gapD
    rw [skp, if_neg (by simp [h1]), if_neg h2]; rfl
theorem dw_head {p : UInt8 → Bool} : ∀ {r : Bs} {c : UInt8} {x : Bs}, r.dropWhile p = c :: x → p c = false
  | [], c, x, h => by simp at h
  | y :: r, c, x, h => by
    rw [List.dropWhile_cons] at h
    split at h
    · exact dw_head h
    · rename_i hp
      injection h with h1 _
      rw [← h1]; exact Bool.eq_false_iff.2 hp
theorem dw_len (p : UInt8 → Bool) : ∀ r : Bs, (r.dropWhile p).length ≤ r.length
  | [] => Nat.le_refl _
  | y :: r => by
    have := dw_len p r
    rw [List.dropWhile_cons]
    split
    · simp only [List.length_cons]; omega
    · exact Nat.le_refl _
/-- One step of the loop over comments. -/
def gapS (r : Bs) : Bs := (cutN r).dropWhile blank
theorem gapS_len {c : UInt8} {r : Bs} : (gapS (c :: r)).length < (c :: r).length := Nat.lt_of_le_of_lt (dw_len _ _) cutN_lt
theorem gapS_gap (r : Bs) : gapD (gapS (35 :: r)) = gapD (35 :: r) := by unfold gapS; rw [gapD_tw, ← gapD_hash]

/-- The size of the token at the beginning. -/
def tsz (r : Bs) : Nat := (tokS 0 r).tx.length
theorem tokS_tx (p q : Nat) (r : Bs) : (tokS p r).tx = (tokS q r).tx ∧ (tokS p r).kd = (tokS q r).kd := by
  cases r with
  | nil => exact ⟨rfl, rfl⟩
  | cons c r =>
    rw [tokS_cons, tokS_cons]
    split
    · exact ⟨rfl, rfl⟩
    · split
      · split <;> exact ⟨rfl, rfl⟩
      · split <;> exact ⟨rfl, rfl⟩
theorem tw_take (p : UInt8 → Bool) : ∀ r : Bs, r.take (r.takeWhile p).length = r.takeWhile p
  | [] => rfl
  | c :: r => by
    rw [List.takeWhile_cons]
    split
    · rw [List.length_cons, List.take_succ_cons, tw_take p r]
    · rfl
theorem tw_dw (p : UInt8 → Bool) : ∀ r : Bs, (r.takeWhile p).length = r.length - (r.dropWhile p).length
  | [] => rfl
  | c :: r => by
    have h1 := tw_dw p r
    have h2 := dw_len p r
    rw [List.takeWhile_cons, List.dropWhile_cons]
    split
    · simp only [List.length_cons]; omega
    · simp
theorem tsz_take (r : Bs) (p : Nat) : r.take (tsz r) = (tokS p r).tx := by
  rw [(tokS_tx p 0 r).1]
  unfold tsz
  cases r with
  | nil => rfl
  | cons c r =>
    rw [tokS_cons]
    split
    · exact tw_take _ _
    · split
      · split
        · rfl
        · exact tw_take _ _
      · split <;> rfl
theorem tsz_le (r : Bs) : tsz r ≤ r.length := (tokS_of r 0).2.2.2.2.2.2.1
theorem tsz_nil : tsz [] = 0 := rfl
theorem tsz_sign {c : UInt8} {r : Bs} (h : signB c = true) : tsz (c :: r) = 1 := by
  have h1 : letB c = false := by
    unfold signB at h; unfold letB
    have := of_decide_eq_true h
    rcases this with h | h | h | h <;> subst h <;> decide
  have h2 : digB c = false := by
    unfold signB at h; unfold digB
    have := of_decide_eq_true h
    rcases this with h | h | h | h <;> subst h <;> decide
  unfold tsz
  rw [tokS_cons, if_neg (by simp [h1]), if_neg (by simp [h2]), if_pos h]; rfl
theorem tsz_let {c : UInt8} {r : Bs} (h : letB c = true) : tsz (c :: r) = (c :: r).length - ((c :: r).dropWhile alnB).length := by
  unfold tsz
  rw [tokS_cons, if_pos h]
  exact tw_dw _ _
/-- Is a text a number? -/
def numB (l : Bs) : Bool := decide (l = [48]) || (decide (l ≠ []) && decide (l.head? ≠ some 48) && decide (l.length ≤ 5) && l.all digB)
theorem tsz_dig {c : UInt8} {r : Bs} (h0 : signB c = false) (h1 : letB c = false) :
    tsz (c :: r) = if numB ((c :: r).takeWhile digB) then (c :: r).length - ((c :: r).dropWhile digB).length else 0 := by
  unfold tsz
  rw [tokS_cons, if_neg (by simp [h1])]
  by_cases h2 : digB c = true
  · rw [if_pos h2]
    have hall := List.all_eq_true.2 (tw_all digB (c :: r))
    have hp := tw_pos h2 r
    rw [← tw_dw]
    by_cases q : 5 < ((c :: r).takeWhile digB).length ∨ c = 48 ∧ 1 < ((c :: r).takeWhile digB).length
    · rw [if_pos q, if_neg]
      · rfl
      · intro hn
        unfold numB at hn
        rw [Bool.or_eq_true] at hn
        rcases hn with hn | hn
        · have := of_decide_eq_true hn
          rw [this] at q
          simp at q
        · simp only [Bool.and_eq_true, decide_eq_true_eq] at hn
          rcases q with q | ⟨q, _⟩
          · omega
          · rw [hp, q] at hn
            exact hn.1.1.2 rfl
    · rw [if_neg q, if_pos]
      unfold numB
      rw [hall]
      by_cases hc : c = 48
      · have : ((c :: r).takeWhile digB).length = 1 := by
          have h1 : 1 ≤ ((c :: r).takeWhile digB).length := by rw [hp]; simp
          rcases Nat.lt_or_ge 1 ((c :: r).takeWhile digB).length with h3 | h3
          · exact absurd (.inr ⟨hc, h3⟩) q
          · omega
        rw [hp] at this ⊢
        simp only [List.length_cons] at this
        have : r.takeWhile digB = [] := List.length_eq_zero_iff.1 (by omega)
        rw [this, hc]; rfl
      · have e1 : ((c :: r).takeWhile digB).length ≤ 5 := by omega
        rw [decide_eq_true e1, hp]
        simp [hc]
  · rw [if_neg h2, if_neg (by simp [h0])]
    have : (c :: r).takeWhile digB = [] := by rw [List.takeWhile_cons, if_neg h2]
    rw [this]; rfl

/-- What kind of token a text is. -/
structure TokK (x : Tk) : Prop where
  word : wordB x.tx = true ↔ x.kd = 1
  num : numB x.tx = true ↔ x.kd = 2
  kw : ∀ k : Bs, (∀ c y, k = c :: y → digB c = false) → k ≠ [] → (x.tx = k ↔ (x.kd = 1 ∨ x.kd = 3) ∧ x.tx = k)
  fin : x.tx = [] ↔ x.kd = 4
  val : x.kd = 2 → x.n = valS x.tx ∧ x.tx.length ≤ 5 ∧ (∀ c ∈ x.tx, digB c = true)
theorem tokS_kind (r : Bs) (p : Nat) (h5 : (tokS p r).kd ≠ 5) : TokK (tokS p r) := by
  cases r with
  | nil => exact ⟨by simp [tokS, wordB], by simp [tokS, numB], fun k _ h => ⟨fun e => absurd e.symm h, fun e => e.2⟩, by simp [tokS], by simp [tokS]⟩
  | cons c r =>
    rw [tokS_cons] at h5 ⊢
    by_cases h1 : letB c = true
    · rw [if_pos h1]
      have ha : alnB c = true := by unfold alnB; rw [h1]; rfl
      have hd : digB c = false := by
        rw [Bool.eq_false_iff]
        intro hd
        unfold letB at h1; unfold digB at hd
        have := of_decide_eq_true h1
        have := of_decide_eq_true hd
        omega
      have hall := tw_all alnB (c :: r)
      have hp := tw_pos ha r
      refine ⟨⟨fun _ => rfl, fun _ => ?_⟩, ⟨fun h => ?_, fun h => nk rfl h⟩, fun k _ _ => ⟨fun e => ⟨.inl rfl, e⟩, fun e => e.2⟩, ⟨fun h => ?_, fun h => nk rfl h⟩, fun h => nk rfl h⟩
      · dsimp only
        rw [hp] at hall ⊢
        show (letB c && (c :: List.takeWhile alnB r).all alnB) = true
        rw [h1, List.all_eq_true.2 hall]; rfl
      · exfalso
        dsimp only at h
        rw [hp] at h
        unfold numB at h
        simp only [List.all_cons, hd, Bool.false_and, Bool.and_false, Bool.or_false, decide_eq_true_eq] at h
        injection h with h _
        rw [h] at hd
        exact absurd hd (by decide)
      · exfalso; dsimp only at h; rw [hp] at h; simp at h
    · rw [if_neg h1] at h5 ⊢
      by_cases h2 : digB c = true
      · rw [if_pos h2] at h5 ⊢
        by_cases q : 5 < ((c :: r).takeWhile digB).length ∨ c = 48 ∧ 1 < ((c :: r).takeWhile digB).length
        · rw [if_pos q] at h5; exact absurd rfl h5
        · rw [if_neg q]
          have hall := tw_all digB (c :: r)
          have hp := tw_pos h2 r
          have hs : signB c = false := by
            rw [Bool.eq_false_iff]
            intro h
            unfold signB at h
            rcases of_decide_eq_true h with h | h | h | h <;> subst h <;> exact absurd h2 (by decide)
          have hz := tsz_dig (r := r) hs (Bool.eq_false_iff.2 h1)
          have hn : numB ((c :: r).takeWhile digB) = true := by
            by_cases hn : numB ((c :: r).takeWhile digB) = true
            · exact hn
            · exfalso
              rw [if_neg hn] at hz
              unfold tsz at hz
              rw [tokS_cons, if_neg h1, if_pos h2, if_neg q, hp] at hz
              simp at hz
          refine ⟨⟨fun h => ?_, fun h => nk rfl h⟩, ⟨fun _ => rfl, fun _ => hn⟩, fun k hk hk0 => ⟨fun e => ?_, fun e => e.2⟩, ⟨fun h => ?_, fun h => nk rfl h⟩, fun _ => ⟨rfl, by dsimp only; omega, hall⟩⟩
          · exfalso
            dsimp only at h
            rw [hp] at h
            unfold wordB at h
            rw [Bool.and_eq_true] at h
            exact h1 h.1
          · exfalso
            dsimp only at e
            rw [hp] at e
            have := hk c _ e.symm
            rw [h2] at this
            exact absurd this (by decide)
          · exfalso; dsimp only at h; rw [hp] at h; simp at h
      · rw [if_neg h2] at h5 ⊢
        by_cases h3 : signB c = true
        · rw [if_pos h3]
          refine ⟨⟨fun h => ?_, fun h => nk rfl h⟩, ⟨fun h => ?_, fun h => nk rfl h⟩, fun k _ _ => ⟨fun e => ⟨.inr rfl, e⟩, fun e => e.2⟩, ⟨fun h => ?_, fun h => nk rfl h⟩, fun h => nk rfl h⟩
          · exfalso
            unfold wordB at h
            rw [Bool.and_eq_true] at h
            exact h1 h.1
          · exfalso
            unfold numB at h
            have hd : digB c = false := Bool.eq_false_iff.2 h2
            simp only [List.all_cons, hd, Bool.false_and, Bool.and_false, Bool.or_false, decide_eq_true_eq] at h
            injection h with h _
            rw [h] at hd
            exact absurd hd (by decide)
          · exfalso; simp at h
        · rw [if_neg h3] at h5; exact absurd rfl h5
theorem tokS_five (r : Bs) (p : Nat) : (tokS p r).kd = 5 ↔ (tokS p r).tx = [] ∧ r ≠ [] := by
  by_cases h : (tokS p r).kd = 5
  · refine ⟨fun _ => ?_, fun _ => h⟩
    have h4 := (tokS_of r p).2.2.2.2.2.2.2
    refine ⟨?_, fun e => by have := h4.2 e; omega⟩
    cases r with
    | nil => exact absurd h (by simp [tokS])
    | cons c r =>
      rw [tokS_cons] at h ⊢
      split
      · rw [if_pos (by assumption)] at h; exact nk rfl h
      · rw [if_neg (by assumption)] at h
        split
        · rw [if_pos (by assumption)] at h
          split
          · rfl
          · rw [if_neg (by assumption)] at h; exact nk rfl h
        · rw [if_neg (by assumption)] at h
          split
          · rw [if_pos (by assumption)] at h; exact nk rfl h
          · rfl
  · refine ⟨fun e => absurd e h, fun ⟨e1, e2⟩ => ?_⟩
    have hk := tokS_kind r p h
    have h4 := (tokS_of r p).2.2.2.2.2.2.2
    exact absurd (h4.1 (hk.fin.1 e1)) e2
theorem nextS_five (r : Bs) (p : Nat) : (nextS r p).kd = 5 ↔ (nextS r p).tx = [] ∧ gapD r ≠ [] := tokS_five _ _
theorem nextS_kind (r : Bs) (p : Nat) (h5 : (nextS r p).kd ≠ 5) : TokK (nextS r p) := tokS_kind _ _ h5
theorem nextS_tx (r : Bs) (p : Nat) : (nextS r p).tx = (gapD r).take (tsz (gapD r)) := (tsz_take _ _).symm
theorem nextS_len (r : Bs) (p : Nat) : (nextS r p).tx.length = tsz (gapD r) := by
  show (tokS _ _).tx.length = (tokS 0 _).tx.length
  rw [(tokS_tx _ 0 _).1]; rfl
theorem gapD_len (r : Bs) : (gapD r).length = r.length - skp false r := by unfold gapD; rw [List.length_drop]
theorem nextS_rest (t : Bs) (q : Nat) (hq : q ≤ t.length) : (gapD (t.drop q)).drop (tsz (gapD (t.drop q))) = t.drop ((nextS (t.drop q) q).ps + (nextS (t.drop q) q).tx.length) ∧
    (nextS (t.drop q) q).ps = t.length - (gapD (t.drop q)).length ∧ (nextS (t.drop q) q).ps + (nextS (t.drop q) q).tx.length ≤ t.length := by
  obtain ⟨_, h2, h3⟩ := nextS_of (t.drop q) q
  have h4 := gapD_len (t.drop q)
  have h5 := skp_le false (t.drop q)
  have h6 := nextS_len (t.drop q) q
  rw [List.length_drop] at h3 h4 h5
  refine ⟨?_, by omega, by omega⟩
  rw [← h6, h2]
  unfold gapD
  rw [List.drop_drop, List.drop_drop]
  congr 1
  omega

/-- The tokens of a text, one after another. -/
theorem toksS_step (t : Bs) : ∀ (f p i : Nat) (x : Tk), p ≤ t.length → (t.drop p).length < f → (toksS f (t.drop p) p)[i]? = some x →
    ∃ q, q ≤ t.length ∧ x = nextS (t.drop q) q ∧ (x.kd ≤ 3 → (toksS f (t.drop p) p)[i + 1]? = some (nextS (t.drop (x.ps + x.tx.length)) (x.ps + x.tx.length)))
  | 0, p, i, x, _, h, _ => absurd h (Nat.not_lt_zero _)
  | f + 1, p, i, x, hp, hf, hx => by
    obtain ⟨h1, h2, h3⟩ := nextS_of (t.drop p) p
    rw [toksS] at hx ⊢
    by_cases q : 3 < (nextS (t.drop p) p).kd
    · rw [if_pos q] at hx ⊢
      cases i with
      | zero =>
        injection hx with hx
        exact ⟨p, hp, hx.symm, fun h => by rw [← hx] at h; omega⟩
      | succ i => simp at hx
    · rw [if_neg q] at hx ⊢
      have hpos := h1.pos (by omega)
      rw [List.length_drop] at h3 hf
      have e1 : (t.drop p).drop (skp false (t.drop p) + (nextS (t.drop p) p).tx.length) = t.drop (p + skp false (t.drop p) + (nextS (t.drop p) p).tx.length) := by rw [List.drop_drop, Nat.add_assoc]
      rw [e1] at hx ⊢
      have hl : (t.drop (p + skp false (t.drop p) + (nextS (t.drop p) p).tx.length)).length < f := by rw [List.length_drop]; omega
      have hle : p + skp false (t.drop p) + (nextS (t.drop p) p).tx.length ≤ t.length := by omega
      cases i with
      | zero =>
        injection hx with hx
        refine ⟨p, hp, hx.symm, fun _ => ?_⟩
        rw [← hx, h2]
        cases f with
        | zero => exact absurd hl (Nat.not_lt_zero _)
        | succ f =>
          rw [toksS]
          split <;> rfl
      | succ i =>
        have hx' : (toksS f (t.drop (p + skp false (t.drop p) + (nextS (t.drop p) p).tx.length)) (p + skp false (t.drop p) + (nextS (t.drop p) p).tx.length))[i]? = some x := hx
        exact toksS_step t f _ i x hle hl hx'
theorem toks_step {t : Bs} {i : Nat} {x : Tk} (hx : (toks t)[i]? = some x) :
    ∃ q, q ≤ t.length ∧ x = nextS (t.drop q) q ∧ (x.kd ≤ 3 → (toks t)[i + 1]? = some (nextS (t.drop (x.ps + x.tx.length)) (x.ps + x.tx.length))) := by
  have := toksS_step t (t.length + 1) 0 i x (Nat.zero_le _) (by rw [List.length_drop]; omega)
  simp only [List.drop_zero] at this
  exact this hx
theorem toks_first (t : Bs) : (toks t)[0]? = some (nextS t 0) := by
  unfold toks
  rw [toksS]
  split <;> rfl
theorem cur_is {t : Bs} {i : Nat} {x : Tk} (hx : (toks t)[i]? = some x) (b : Int) : cur (toks t) ⟨i, b⟩ = x := by
  unfold cur
  rw [List.getD_eq_getElem?_getD, hx]; rfl

end Go.Proofs.YtcogkdnlpjfgdaaGreatDoor
