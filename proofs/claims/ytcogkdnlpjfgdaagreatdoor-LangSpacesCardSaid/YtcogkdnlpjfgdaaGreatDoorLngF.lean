/-
  What the parser accepts is a code that is valid; a text without a closing brace is none. No program stands behind this text.
-/
import Derived.Test.YtcogkdnlpjfgdaaGreatDoorLngE
namespace Go.Proofs.YtcogkdnlpjfgdaaGreatDoor
set_option linter.unusedVariables false
set_option linter.unusedSimpArgs false

theorem one_no {P : Prop} (h : (1 : Int) = 0) : P := absurd h (by decide)
theorem two_no {P : Prop} (h : (2 : Int) = 0) : P := absurd h (by decide)
section
variable {l : List Tk} {s : PS}
theorem failP_bad (s : PS) : 0 ≤ (failP l s).bad := by
  unfold failP
  split
  · exact Int.natCast_nonneg _
  · omega
theorem failP_stuck (h : 0 ≤ s.bad) : failP l s = s := by unfold failP; rw [if_neg (by omega)]
theorem isP_neg {t : Bs} (h : 0 ≤ s.bad) : isP l t s = false := by unfold isP; exact decide_eq_false (fun q => by omega)
theorem isP_is {t : Bs} (h : isP l t s = true) : s.bad < 0 ∧ ((cur l s).kd = 1 ∨ (cur l s).kd = 3) ∧ (cur l s).tx = t := of_decide_eq_true h
theorem mustP_stuck {t : Bs} (h : 0 ≤ s.bad) : mustP l t s = s := by unfold mustP; rw [isP_neg h, if_neg (by simp), failP_stuck h]
theorem kindP_stuck {k : Nat} (h : 0 ≤ s.bad) : kindP l k s = s := by unfold kindP; rw [if_neg (fun q => by omega), failP_stuck h]
theorem mustP_ok {t : Bs} (h : (mustP l t s).bad < 0) : s.bad < 0 ∧ isP l t s = true ∧ mustP l t s = ⟨s.i + 1, s.bad⟩ := by
  unfold mustP at h ⊢
  by_cases q : isP l t s = true
  · rw [if_pos q] at h ⊢; exact ⟨h, q, rfl⟩
  · rw [if_neg q] at h
    have := failP_bad (l := l) s
    omega
theorem kindP_ok {k : Nat} (h : (kindP l k s).bad < 0) : s.bad < 0 ∧ (cur l s).kd = k ∧ kindP l k s = ⟨s.i + 1, s.bad⟩ := by
  unfold kindP at h ⊢
  by_cases q : s.bad < 0 ∧ (cur l s).kd = k
  · rw [if_pos q] at h ⊢; exact ⟨q.1, q.2, rfl⟩
  · rw [if_neg q] at h
    have := failP_bad (l := l) s
    omega
end
theorem numsG_ok (l : List Tk) : ∀ (f : Nat) (s : PS) (out : List Tk), (numsG l f s out).2.bad < 0 → s.bad < 0
  | 0, s, out, h => h
  | f + 1, s, out, h => by
    rw [numsG] at h
    split at h
    · rename_i q; exact q.1
    · exact h
theorem numsG_ne (l : List Tk) : ∀ (f : Nat) (s : PS) (out : List Tk), out ≠ [] → (numsG l f s out).1 ≠ []
  | 0, s, out, h => h
  | f + 1, s, out, h => by
    rw [numsG]
    split
    · exact numsG_ne l f _ _ (by simp)
    · exact h
theorem numsP_ne (l : List Tk) (s : PS) : (numsP l s).1 ≠ [] := numsG_ne l _ _ _ (by simp)
theorem numsP_ok {l : List Tk} {s : PS} (h : (numsP l s).2.bad < 0) : s.bad < 0 := (kindP_ok (numsG_ok l _ _ _ h)).1
theorem oneP_ok {l : List Tk} {k : Bs} {s : PS} (h : (oneP l k s).2.bad < 0) : s.bad < 0 ∧ (oneP l k s).1.key.tx = k ∧ (oneP l k s).1.a ≠ [] := by
  unfold oneP at h ⊢
  obtain ⟨h1, _⟩ := mustP_ok h
  obtain ⟨h2, _⟩ := kindP_ok h1
  obtain ⟨h3, h4, _⟩ := mustP_ok h2
  exact ⟨h3, (isP_is h4).2.2, by simp⟩
/-- What a row's statement looks like. -/
def RowK (x : Ln) : Prop := x.a ≠ [] ∧ (x.key.tx = kLocal ∧ x.b ≠ [] ∨ x.key.tx = kParity)
theorem rowP_ok {l : List Tk} {s : PS} (h : (rowP l s).2.bad < 0) : s.bad < 0 ∧ RowK (rowP l s).1 := by
  unfold rowP at h ⊢
  by_cases q : isP l kLocal s = true
  · rw [if_pos q] at h ⊢
    exact ⟨(isP_is q).1, numsP_ne _ _, .inl ⟨(isP_is q).2.2, numsP_ne _ _⟩⟩
  · rw [if_neg q] at h ⊢
    obtain ⟨h1, _⟩ := mustP_ok h
    obtain ⟨h2, h3, _⟩ := mustP_ok (numsP_ok h1)
    exact ⟨h2, numsP_ne _ _, .inr (isP_is h3).2.2⟩
theorem rowsG_ok (l : List Tk) : ∀ (f : Nat) (first : Bool) (s : PS) (out : List Ln), (rowsG l f first s out).2.bad < 0 →
    s.bad < 0 ∧ ∃ xs, (rowsG l f first s out).1 = out ++ xs ∧ (∀ x ∈ xs, RowK x) ∧ (0 < f → first = true → xs ≠ [])
  | 0, first, s, out, h => ⟨h, [], by rw [List.append_nil]; rfl, by simp, by omega⟩
  | f + 1, first, s, out, h => by
    rw [rowsG] at h ⊢
    by_cases q : s.bad < 0 ∧ (first = true ∨ isP l kParity s = true ∨ isP l kLocal s = true)
    · rw [if_pos q] at h ⊢
      obtain ⟨h1, xs, h2, h3, _⟩ := rowsG_ok l f false _ _ h
      obtain ⟨h4, h5⟩ := rowP_ok h1
      refine ⟨h4, (rowP l s).1 :: xs, by rw [h2, List.append_assoc]; rfl, ?_, by simp⟩
      intro x hx
      rcases List.mem_cons.1 hx with hx | hx
      · rw [hx]; exact h5
      · exact h3 x hx
    · rw [if_neg q] at h ⊢
      have h' : s.bad < 0 := h
      refine ⟨h', [], by rw [List.append_nil], by simp, ?_⟩
      intro _ hf
      exact absurd ⟨h', .inl hf⟩ q
/-- What a code looks like as it is written, if there was no syntax error. -/
def SrcK (s : Sc) : Prop :=
  s.name.kd = 1 ∧ ∃ lf ld rs e, s.lines = lf :: ld :: (rs ++ e) ∧ lf.key.tx = kField ∧ lf.a ≠ [] ∧ ld.key.tx = kData ∧ ld.a ≠ [] ∧ (∀ x ∈ rs, RowK x) ∧ rs ≠ [] ∧ (e = [] ∨ ∃ lm, e = [lm] ∧ lm.key.tx = kDomain ∧ lm.a ≠ [])
theorem codeP_ok {l : List Tk} {s : PS} (h : (codeP l s).2.bad < 0) : s.bad < 0 ∧ SrcK (codeP l s).1 ∧ ∃ s', isP l [125] s' = true := by
  unfold codeP at h ⊢
  obtain ⟨h1, h2, _⟩ := mustP_ok h
  have he : (bodyP l (headP l s)).2.bad < 0 ∧ ∃ e, (endP l (bodyP l (headP l s))).1 = (bodyP l (headP l s)).1 ++ e ∧ (e = [] ∨ ∃ lm, e = [lm] ∧ lm.key.tx = kDomain ∧ lm.a ≠ []) := by
    unfold endP at h1 ⊢
    by_cases q : isP l kDomain (bodyP l (headP l s)).2 = true
    · rw [if_pos q] at h1 ⊢
      obtain ⟨h3, h4, h5⟩ := oneP_ok h1
      exact ⟨h3, _, rfl, .inr ⟨_, rfl, h4, h5⟩⟩
    · rw [if_neg q] at h1 ⊢
      exact ⟨h1, [], by rw [List.append_nil], .inl rfl⟩
  obtain ⟨hb, e, he1, he2⟩ := he
  obtain ⟨hd, xs, hx1, hx2, hx3⟩ := rowsG_ok l _ _ _ _ hb
  obtain ⟨hf, d1, d2⟩ := oneP_ok hd
  obtain ⟨hh, f1, f2⟩ := oneP_ok hf
  unfold headP at hh
  obtain ⟨m1, _⟩ := mustP_ok hh
  obtain ⟨m2, m3, _⟩ := kindP_ok m1
  obtain ⟨m4, _⟩ := mustP_ok m2
  refine ⟨m4, ⟨m3, _, _, xs, e, ?_, f1, f2, d1, d2, hx2, hx3 (by omega) rfl, he2⟩, _, h2⟩
  rw [he1]
  unfold bodyP
  rw [hx1]
  simp only [List.append_assoc, List.cons_append, List.nil_append]

/-- What a row that was accepted is. -/
theorem locI_none {d : Int} : ∀ {q : Nat} {a : List Tk}, locI d q a = none → ∀ t ∈ a, (t.n : Int) < d ∧ q ≤ t.n
  | q, [], _, t, ht => by simp at ht
  | q, x :: a, h, t, ht => by
    rw [locI] at h
    by_cases c : d ≤ (x.n : Int) ∨ x.n < q
    · rw [if_pos c] at h; cases h
    · rw [if_neg c] at h
      have ih := locI_none h
      rcases List.mem_cons.1 ht with ht | ht
      · rw [ht]; omega
      · have := ih t ht; omega
theorem fill_mem : ∀ (a b : List Tk) (o : List Int), ∀ x ∈ fillL a b o, x ∈ o ∨ ∃ t ∈ b, x = (t.n : Int)
  | [], b, o, x, h => .inl (by cases b <;> exact h)
  | _ :: _, [], o, x, h => .inl h
  | y :: a, z :: b, o, x, h => by
    rw [fillL] at h
    rcases fill_mem a b _ x h with h1 | ⟨t, h1, h2⟩
    · rcases List.mem_or_eq_of_mem_set h1 with h1 | h1
      · exact .inl h1
      · exact .inr ⟨z, by simp, h1⟩
    · exact .inr ⟨t, by simp [h1], h2⟩
/-- A value that was set stays: the later indices are greater. -/
theorem fill_stays {d : Int} : ∀ (a b : List Tk) (o : List Int) (q : Nat), locI d q a = none → ∀ k, k < q → (fillL a b o)[k]? = o[k]?
  | [], b, o, q, _, k, _ => by cases b <;> rfl
  | _ :: _, [], o, q, _, k, _ => rfl
  | y :: a, z :: b, o, q, h, k, hk => by
    rw [locI] at h
    by_cases c : d ≤ (y.n : Int) ∨ y.n < q
    · rw [if_pos c] at h; cases h
    · rw [if_neg c] at h
      rw [fillL, fill_stays a b _ (y.n + 1) h k (by omega), List.getElem?_set_ne (by omega)]
theorem rowB_is {x : Ln} {f d : Int} (hd : 1 ≤ d) (hx : RowK x) (h : (rowB x d (topF f)).2.2 = 0) : rowOk f d (rowB x d (topF f)).1 = true := by
  have ht : 0 ≤ topF f := by unfold topF; split <;> omega
  unfold rowB at h ⊢
  unfold rowOk
  rcases hx.2 with ⟨hk, hb⟩ | hk
  · rw [if_pos hk] at h ⊢
    unfold localB at h ⊢
    cases hl : locI d 0 x.a with
    | some t => rw [hl] at h; exact one_no h
    | none =>
      rw [hl] at h
      dsimp only at h ⊢
      by_cases hn : x.a.length ≠ x.b.length
      · rw [if_pos hn] at h; exact one_no h
      · rw [if_neg hn] at h ⊢
        cases hq : x.b.find? (fun t => decide (t.n = 0 ∨ topF f < (t.n : Int))) with
        | some t => rw [hq] at h; exact one_no h
        | none =>
          rw [hq] at h
          dsimp only
          rw [List.find?_eq_none] at hq
          have hb2 : ∀ t ∈ x.b, t.n ≠ 0 ∧ (t.n : Int) ≤ topF f := fun t ht => by
            have := hq t ht
            rw [decide_eq_true_eq] at this
            omega
          rw [Bool.and_eq_true, Bool.and_eq_true]
          refine ⟨⟨decide_eq_true (by rw [fill_len, List.length_replicate]; omega), ?_⟩, ?_⟩
          · rw [List.all_eq_true]
            intro y hy
            refine decide_eq_true ?_
            rcases fill_mem _ _ _ y hy with h1 | ⟨t, h1, h2⟩
            · rw [List.mem_replicate] at h1; omega
            · have := hb2 t h1; omega
          · cases ha : x.a with
            | nil => exact absurd ha hx.1
            | cons s a =>
              cases hbb : x.b with
              | nil => exact absurd hbb hb
              | cons t b =>
                rw [ha, locI] at hl
                by_cases c : d ≤ (s.n : Int) ∨ s.n < 0
                · rw [if_pos c] at hl; cases hl
                · rw [if_neg c] at hl
                  have hg := fill_stays a b ((List.replicate d.toNat (0 : Int)).set s.n (t.n : Int)) (s.n + 1) hl s.n (by omega)
                  rw [List.getElem?_set_self (by rw [List.length_replicate]; omega)] at hg
                  rw [List.any_eq_true]
                  refine ⟨(t.n : Int), List.mem_of_getElem? hg, decide_eq_true ?_⟩
                  have := hb2 t (by rw [hbb]; simp)
                  omega
  · rw [if_neg (by rw [hk]; decide)] at h ⊢
    unfold parityB at h ⊢
    by_cases hn : (x.a.length : Int) ≠ d
    · rw [if_pos hn] at h; exact one_no h
    · rw [if_neg hn] at h ⊢
      cases hq : x.a.find? (fun t => decide (topF f < (t.n : Int))) with
      | some t => rw [hq] at h; exact one_no h
      | none =>
        rw [hq] at h
        dsimp only at h ⊢
        by_cases hz : x.a.all (fun t => decide (t.n = 0)) = true
        · rw [if_pos hz] at h; exact one_no h
        · rw [if_neg hz]
          dsimp only
          rw [List.find?_eq_none] at hq
          rw [Bool.and_eq_true, Bool.and_eq_true]
          refine ⟨⟨decide_eq_true (by rw [List.length_map]; omega), ?_⟩, ?_⟩
          · rw [List.all_eq_true]
            intro y hy
            obtain ⟨t, h1, rfl⟩ := List.mem_map.1 hy
            have := hq t h1
            rw [decide_eq_true_eq] at this
            exact decide_eq_true ⟨by omega, by omega⟩
          · rw [Bool.not_eq_true, ← Bool.not_eq_true, List.all_eq_true] at hz
            rw [List.any_eq_true]
            refine Classical.byContradiction fun hno => hz fun t ht => ?_
            refine decide_eq_true (Classical.byContradiction fun hne => hno ⟨(t.n : Int), List.mem_map.2 ⟨t, ht, rfl⟩, decide_eq_true (by omega)⟩)
theorem build_rows_is (rest : List Ln) : ∀ (xs : List Ln) (c : Cd), (∀ x ∈ xs, RowK x) → 1 ≤ c.data → (buildL (xs ++ rest) c).2.2 = 0 →
    ∃ vs, buildL (xs ++ rest) c = buildL rest { c with par := c.par ++ vs } ∧ vs.length = xs.length ∧ (∀ v ∈ vs, rowOk c.field c.data v = true) ∧ (xs ≠ [] → c.data + c.par.length + vs.length ≤ 32)
  | [], c, _, _, _ => ⟨[], by rw [List.nil_append, List.append_nil], rfl, by simp, by simp⟩
  | x :: xs, c, hx, hd, h => by
    have hk := hx x (by simp)
    have k1 : x.key.tx ≠ kField := by rcases hk.2 with ⟨q, _⟩ | q <;> rw [q] <;> decide
    have k2 : x.key.tx ≠ kData := by rcases hk.2 with ⟨q, _⟩ | q <;> rw [q] <;> decide
    have k3 : x.key.tx ≠ kDomain := by rcases hk.2 with ⟨q, _⟩ | q <;> rw [q] <;> decide
    rw [List.cons_append, buildL, if_neg k1, if_neg k2, if_neg k3] at h ⊢
    by_cases hw : 32 ≤ c.data + c.par.length
    · rw [if_pos hw] at h; exact two_no h
    · rw [if_neg hw] at h ⊢
      by_cases he : (rowB x c.data (topF c.field)).2.2 ≠ 0
      · rw [if_pos he] at h; exact absurd h he
      · rw [if_neg he] at h ⊢
        obtain ⟨vs, h1, h2, h3, h4⟩ := build_rows_is rest xs { c with par := c.par ++ [(rowB x c.data (topF c.field)).1] } (fun y hy => hx y (by simp [hy])) hd h
        refine ⟨(rowB x c.data (topF c.field)).1 :: vs, ?_, by simp [h2], ?_, ?_⟩
        · rw [h1]
          dsimp only
          rw [List.append_assoc]; rfl
        · intro v hv
          rcases List.mem_cons.1 hv with hv | hv
          · rw [hv]; exact rowB_is hd hk (by simpa using he)
          · exact h3 v hv
        · intro _
          by_cases h0 : xs = []
          · rw [h0] at h2
            have : vs.length = 0 := h2
            simp only [List.length_cons]
            omega
          · have := h4 h0
            dsimp only at this
            rw [List.length_append, List.length_singleton] at this
            simp only [List.length_cons]
            omega
theorem build_is {s : Sc} (hs : SrcK s) (hw : s.name.kd = 1 → wordB s.name.tx = true) (h : (buildS s).2.2 = 0) : Good (buildS s).1 := by
  obtain ⟨h1, lf, ld, rs, e, h2, f1, f2, d1, d2, h3, h4, h5⟩ := hs
  unfold buildS at h ⊢
  by_cases hn : 12 < s.name.tx.length
  · rw [if_pos hn] at h; exact two_no h
  rw [if_neg hn, h2, buildL, if_pos f1] at h ⊢
  by_cases q1 : (hd lf.a).n ≠ 8 ∧ (hd lf.a).n ≠ 16
  · rw [if_pos q1] at h; exact one_no h
  rw [if_neg q1, buildL, if_neg (by rw [d1]; decide), if_pos d1] at h ⊢
  by_cases q2 : (hd ld.a).n < 1 ∨ 31 < (hd ld.a).n
  · rw [if_pos q2] at h; exact one_no h
  rw [if_neg q2] at h ⊢
  dsimp only at h ⊢
  obtain ⟨vs, b1, b2, b3, b4⟩ := build_rows_is e rs _ h3 (by show 1 ≤ ((hd ld.a).n : Int); omega) h
  have b5 := b4 h4
  dsimp only at b1 b3 b5
  rw [List.length_nil] at b5
  have hne : vs ≠ [] := fun q => by
    rw [q] at b2
    exact h4 (List.length_eq_zero_iff.1 b2.symm)
  have hpos : 1 ≤ vs.length := by
    cases vs with
    | nil => exact absurd rfl hne
    | cons _ _ => simp
  rw [b1] at h ⊢
  rw [List.nil_append] at h ⊢
  rcases h5 with rfl | ⟨lm, rfl, m1, m2⟩
  · rw [buildL]
    dsimp only
    rw [if_pos rfl]
    exact ⟨hw h1, by show s.name.tx.length ≤ 12; omega, by show ((hd lf.a).n : Int) = 8 ∨ ((hd lf.a).n : Int) = 16; omega, by show 1 ≤ ((hd ld.a).n : Int); omega, by show ((hd ld.a).n : Int) ≤ 31; omega, hne,
      by show ((hd ld.a).n : Int) + (vs.length : Int) ≤ 32; omega, b3, by show 1 ≤ ((hd ld.a).n : Int) + (vs.length : Int); omega, by show ((hd ld.a).n : Int) + (vs.length : Int) ≤ ((hd ld.a).n : Int) + (vs.length : Int); omega⟩
  · rw [buildL, if_neg (by rw [m1]; decide), if_neg (by rw [m1]; decide), if_pos m1] at h ⊢
    dsimp only at h ⊢
    by_cases q3 : (hd lm.a).n < 1 ∨ ((hd ld.a).n : Int) + (vs.length : Int) < ((hd lm.a).n : Int)
    · rw [if_pos q3] at h; exact one_no h
    rw [if_neg q3, buildL]
    dsimp only
    rw [if_neg (by omega)]
    exact ⟨hw h1, by show s.name.tx.length ≤ 12; omega, by show ((hd lf.a).n : Int) = 8 ∨ ((hd lf.a).n : Int) = 16; omega, by show 1 ≤ ((hd ld.a).n : Int); omega, by show ((hd ld.a).n : Int) ≤ 31; omega, hne,
      by show ((hd ld.a).n : Int) + (vs.length : Int) ≤ 32; omega, b3, by show 1 ≤ ((hd lm.a).n : Int); omega, by show ((hd lm.a).n : Int) ≤ ((hd ld.a).n : Int) + (vs.length : Int); omega⟩

theorem skp_le : ∀ (b : Bool) (r : Bs), skp b r ≤ r.length
  | _, [] => by simp [skp]
  | true, c :: r => by
    have h1 := skp_le false r
    have h2 := skp_le true r
    rw [skp]
    simp only [List.length_cons]
    split <;> omega
  | false, c :: r => by
    have h1 := skp_le false r
    have h2 := skp_le true r
    rw [skp]
    simp only [List.length_cons]
    split
    · omega
    · split <;> omega
theorem tw_all (p : UInt8 → Bool) : ∀ (r : Bs), ∀ c ∈ r.takeWhile p, p c = true
  | [], c, h => by simp at h
  | x :: r, c, h => by
    rw [List.takeWhile_cons] at h
    split at h
    · rcases List.mem_cons.1 h with h | h
      · rw [h]; assumption
      · exact tw_all p r c h
    · simp at h
theorem tw_mem (p : UInt8 → Bool) : ∀ (r : Bs), ∀ c ∈ r.takeWhile p, c ∈ r
  | [], c, h => by simp at h
  | x :: r, c, h => by
    rw [List.takeWhile_cons] at h
    split at h
    · rcases List.mem_cons.1 h with h | h
      · rw [h]; simp
      · simp [tw_mem p r c h]
    · simp at h
theorem tw_len (p : UInt8 → Bool) : ∀ (r : Bs), (r.takeWhile p).length ≤ r.length
  | [] => by simp
  | x :: r => by
    rw [List.takeWhile_cons]
    have := tw_len p r
    split
    · simp only [List.length_cons]; omega
    · simp
theorem tw_pos {p : UInt8 → Bool} {c : UInt8} (h : p c = true) (r : Bs) : (c :: r).takeWhile p = c :: r.takeWhile p := by rw [List.takeWhile_cons, if_pos h]
/-- The token at the beginning. -/
theorem tokS_of (r : Bs) (p : Nat) : (tokS p r).ps = p ∧ ((tokS p r).kd = 1 → wordB (tokS p r).tx = true) ∧ (∀ c ∈ (tokS p r).tx, c ∈ r) ∧ 1 ≤ (tokS p r).kd ∧ (tokS p r).kd ≤ 5 ∧
    ((tokS p r).kd ≤ 3 → 1 ≤ (tokS p r).tx.length) ∧ (tokS p r).tx.length ≤ r.length ∧ ((tokS p r).kd = 4 ↔ r = []) := by
  cases r with
  | nil => exact ⟨rfl, by simp [tokS], by simp [tokS], by simp [tokS], by simp [tokS], by simp [tokS], by simp [tokS], by simp [tokS]⟩
  | cons c r =>
    rw [tokS_cons]
    by_cases h1 : letB c = true
    · rw [if_pos h1]
      have ha : alnB c = true := by unfold alnB; rw [h1]; rfl
      refine ⟨rfl, fun _ => ?_, fun x hx => tw_mem _ _ x hx, by dsimp only; omega, by dsimp only; omega, fun _ => ?_, tw_len _ _, by simp⟩
      · have hall := tw_all alnB (c :: r)
        dsimp only
        rw [tw_pos ha] at hall ⊢
        unfold wordB
        rw [Bool.and_eq_true]
        exact ⟨h1, List.all_eq_true.2 hall⟩
      · dsimp only; rw [tw_pos ha]; simp
    · rw [if_neg h1]
      by_cases h2 : digB c = true
      · rw [if_pos h2]
        split
        · exact ⟨rfl, by simp, by simp, by simp, by simp, by simp, by simp, by simp⟩
        · refine ⟨rfl, by simp, fun x hx => tw_mem _ _ x hx, by simp, by simp, fun _ => ?_, tw_len _ _, by simp⟩
          dsimp only; rw [tw_pos h2]; simp
      · rw [if_neg h2]
        split
        · exact ⟨rfl, by simp, by simp, by simp, by simp, by simp, by simp, by simp⟩
        · exact ⟨rfl, by simp, by simp, by simp, by simp, by simp, by simp, by simp⟩

/-- What the tokens of a text are: the last one alone is none. -/
structure TokOf (r : Bs) (p : Nat) (x : Tk) : Prop where
  word : x.kd = 1 → wordB x.tx = true
  lo : p ≤ x.ps
  hi : x.ps + x.tx.length ≤ p + r.length
  mem : ∀ c ∈ x.tx, c ∈ r
  k1 : 1 ≤ x.kd
  k5 : x.kd ≤ 5
  pos : x.kd ≤ 3 → 1 ≤ x.tx.length
theorem nextS_of (r : Bs) (p : Nat) : TokOf r p (nextS r p) ∧ (nextS r p).ps = p + skp false r ∧ skp false r + (nextS r p).tx.length ≤ r.length := by
  unfold nextS
  have hs := skp_le false r
  obtain ⟨h1, h2, h3, h4, h5, h6, h7, h8⟩ := tokS_of (r.drop (skp false r)) (p + skp false r)
  rw [List.length_drop] at h7
  exact ⟨⟨h2, by rw [h1]; omega, by rw [h1]; omega, fun c hc => List.mem_of_mem_drop (h3 c hc), h4, h5, h6⟩, h1, by omega⟩
theorem TokOf.drop {r : Bs} {p k : Nat} {x : Tk} (h : TokOf (r.drop k) (p + k) x) (hk : k ≤ r.length) : TokOf r p x :=
  ⟨h.word, by have := h.lo; omega, by have := h.hi; rw [List.length_drop] at this; omega, fun c hc => List.mem_of_mem_drop (h.mem c hc), h.k1, h.k5, h.pos⟩
theorem toksS_of : ∀ (f : Nat) (r : Bs) (p : Nat), r.length < f → (∃ a t, toksS f r p = a ++ [t] ∧ (∀ x ∈ a, x.kd ≤ 3) ∧ 3 < t.kd) ∧ (∀ x ∈ toksS f r p, TokOf r p x) ∧ (toksS f r p).length ≤ r.length + 1
  | f + 1, r, p, h => by
    obtain ⟨h1, h2, h3⟩ := nextS_of r p
    rw [toksS]
    by_cases q : 3 < (nextS r p).kd
    · rw [if_pos q]
      exact ⟨⟨[], nextS r p, rfl, by simp, q⟩, fun x hx => by rw [List.mem_singleton] at hx; rw [hx]; exact h1, by simp⟩
    · rw [if_neg q]
      have hp := h1.pos (by omega)
      have hd : (r.drop (skp false r + (nextS r p).tx.length)).length < f := by rw [List.length_drop]; omega
      obtain ⟨⟨a, t, e1, e2, e3⟩, e4, e5⟩ := toksS_of f (r.drop (skp false r + (nextS r p).tx.length)) (p + skp false r + (nextS r p).tx.length) hd
      refine ⟨⟨nextS r p :: a, t, by rw [e1]; rfl, ?_, e3⟩, ?_, ?_⟩
      · intro x hx
        rcases List.mem_cons.1 hx with hx | hx
        · rw [hx]; omega
        · exact e2 x hx
      · intro x hx
        rcases List.mem_cons.1 hx with hx | hx
        · rw [hx]; exact h1
        · have := e4 x hx
          rw [Nat.add_assoc] at this
          exact this.drop h3
      · rw [List.length_drop] at e5
        simp only [List.length_cons]
        omega
theorem toks_of (s : Bs) : (∃ a t, toks s = a ++ [t] ∧ (∀ x ∈ a, x.kd ≤ 3) ∧ 3 < t.kd) ∧ (∀ x ∈ toks s, TokOf s 0 x) ∧ (toks s).length ≤ s.length + 1 := toksS_of _ s 0 (by omega)
theorem cur_or (l : List Tk) (s : PS) : cur l s ∈ l ∨ cur l s = tk0 := by
  unfold cur
  rw [List.getD_eq_getElem?_getD]
  cases h : l[s.i]? with
  | none => exact .inr rfl
  | some x => exact .inl (List.mem_of_getElem? h)
theorem src_word {t : Bs} {s : PS} : (cur (toks t) s).kd = 1 → wordB (cur (toks t) s).tx = true := by
  intro h
  rcases cur_or (toks t) s with q | q
  · exact ((toks_of t).2.1 _ q).word h
  · rw [q] at h; exact absurd h (by decide)
theorem codeP_name (l : List Tk) (s : PS) : (codeP l s).1.name = cur l (mustP l kCode s) := rfl
/-- P7.6: whatever Parse accepts, Check accepts. -/
theorem parse_good {t : Bs} (h : (parseC t).2.2 = 0) : Good (parseC t).1 := by
  unfold parseC at h ⊢
  by_cases h1 : 2000 < t.length
  · rw [if_pos h1] at h; exact two_no h
  rw [if_neg h1] at h ⊢
  by_cases h2 : 0 ≤ (kindP (toks t) 4 (codeP (toks t) ⟨0, -1⟩).2).bad
  · rw [if_pos h2] at h; exact absurd (show (3 : Int) = 0 from h) (by decide)
  rw [if_neg h2] at h ⊢
  dsimp only at h ⊢
  obtain ⟨h3, _⟩ := kindP_ok (Int.not_le.1 h2)
  obtain ⟨_, h4, _⟩ := codeP_ok h3
  refine build_is h4 (fun q => ?_) h
  rw [codeP_name] at q ⊢
  exact src_word q

section
variable {l : List Tk} {N : Int} (hl : ∀ x ∈ l, (x.ps : Int) ≤ N) (hN : 0 ≤ N)
include hl hN
theorem cur_bd (s : PS) : ((cur l s).ps : Int) ≤ N := by
  rcases cur_or l s with q | q
  · exact hl _ q
  · rw [q]; exact hN
theorem failP_bd {s : PS} (h : s.bad ≤ N) : (failP l s).bad ≤ N := by
  unfold failP
  split
  · exact cur_bd hl hN s
  · exact h
theorem mustP_bd {s : PS} (t : Bs) (h : s.bad ≤ N) : (mustP l t s).bad ≤ N := by
  unfold mustP
  split
  · exact h
  · exact failP_bd hl hN h
theorem kindP_bd {s : PS} (k : Nat) (h : s.bad ≤ N) : (kindP l k s).bad ≤ N := by
  unfold kindP
  split
  · exact h
  · exact failP_bd hl hN h
theorem numsG_bd : ∀ (f : Nat) (s : PS) (out : List Tk), s.bad ≤ N → (numsG l f s out).2.bad ≤ N
  | 0, s, out, h => h
  | f + 1, s, out, h => by
    rw [numsG]
    split
    · exact numsG_bd f _ _ (kindP_bd hl hN 2 h)
    · exact h
theorem numsP_bd {s : PS} (h : s.bad ≤ N) : (numsP l s).2.bad ≤ N := numsG_bd hl hN _ _ _ (kindP_bd hl hN 2 h)
theorem oneP_bd {s : PS} (k : Bs) (h : s.bad ≤ N) : (oneP l k s).2.bad ≤ N := mustP_bd hl hN _ (kindP_bd hl hN _ (mustP_bd hl hN _ h))
theorem rowP_bd {s : PS} (h : s.bad ≤ N) : (rowP l s).2.bad ≤ N := by
  unfold rowP
  split
  · exact mustP_bd hl hN _ (numsP_bd hl hN (mustP_bd hl hN _ (numsP_bd hl hN (mustP_bd hl hN _ h))))
  · exact mustP_bd hl hN _ (numsP_bd hl hN (mustP_bd hl hN _ h))
theorem rowsG_bd : ∀ (f : Nat) (b : Bool) (s : PS) (out : List Ln), s.bad ≤ N → (rowsG l f b s out).2.bad ≤ N
  | 0, b, s, out, h => h
  | f + 1, b, s, out, h => by
    rw [rowsG]
    split
    · exact rowsG_bd f _ _ _ (rowP_bd hl hN h)
    · exact h
theorem codeP_bd {s : PS} (h : s.bad ≤ N) : (codeP l s).2.bad ≤ N := by
  unfold codeP
  refine mustP_bd hl hN _ ?_
  have hb : (bodyP l (headP l s)).2.bad ≤ N := rowsG_bd hl hN _ _ _ _ (oneP_bd hl hN _ (oneP_bd hl hN _ (mustP_bd hl hN _ (kindP_bd hl hN _ (mustP_bd hl hN _ h)))))
  unfold endP
  split
  · exact oneP_bd hl hN _ hb
  · exact hb
end
/-- P7.7: a text without a closing brace is no code. -/
theorem parse_open {t : Bs} (h1 : t.length ≤ 2000) (h2 : (125 : UInt8) ∉ t) : (parseC t).1 = cd0 ∧ (parseC t).2.2 = 3 ∧ 0 ≤ (parseC t).2.1 ∧ (parseC t).2.1 ≤ t.length := by
  unfold parseC
  rw [if_neg (by omega)]
  have hbad : 0 ≤ (kindP (toks t) 4 (codeP (toks t) ⟨0, -1⟩).2).bad := by
    refine Classical.byContradiction fun h3 => ?_
    obtain ⟨h4, _⟩ := kindP_ok (Int.not_le.1 h3)
    obtain ⟨_, _, s', h5⟩ := codeP_ok h4
    have h6 := (isP_is h5).2.2
    rcases cur_or (toks t) s' with q | q
    · have := ((toks_of t).2.1 _ q).mem 125 (by rw [h6]; simp)
      exact h2 this
    · rw [q] at h6; exact absurd h6 (by decide)
  rw [if_pos hbad]
  refine ⟨rfl, rfl, hbad, ?_⟩
  have hl : ∀ x ∈ toks t, ((x.ps : Nat) : Int) ≤ (t.length : Int) := fun x hx => by
    have := ((toks_of t).2.1 x hx).hi
    omega
  exact kindP_bd hl (by omega) _ (codeP_bd hl (by omega) (by show (-1 : Int) ≤ _; omega))

end Go.Proofs.YtcogkdnlpjfgdaaGreatDoor
