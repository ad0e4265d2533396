/-
  The parser at the tokens of a printed code: it reads the code. No program stands behind this text.
-/
import Derived.Test.YtcogkdnlpjfgdaaGreatDoorLngB
namespace Go.Proofs.YtcogkdnlpjfgdaaGreatDoor
set_option linter.unusedVariables false
set_option linter.unusedSimpArgs false

section
variable {l : List Tk} {i : Nat} {x : Tk} {r : List Tk}
theorem cur_at (h : (l.map er).drop i = x :: r) (b : Int) : er (cur l ⟨i, b⟩) = x ∧ (l.map er).drop (i + 1) = r := by
  have h2 : (l.map er)[i]? = some x := by
    have := congrArg List.head? h
    rwa [List.head?_drop, List.head?_cons] at this
  constructor
  · rw [List.getElem?_map] at h2
    unfold cur
    show er (l.getD i tk0) = x
    rw [List.getD_eq_getElem?_getD]
    cases hq : l[i]? with
    | none => rw [hq] at h2; simp at h2
    | some t => rw [hq] at h2; simpa using h2
  · have := congrArg (List.drop 1) h
    rwa [List.drop_drop, List.drop_one, List.tail_cons] at this
theorem er_tx (t : Tk) : (er t).tx = t.tx := rfl
theorem er_kd (t : Tk) : (er t).kd = t.kd := rfl
theorem er_n (t : Tk) : (er t).n = t.n := rfl
theorem cur_tx (h : (l.map er).drop i = x :: r) (b : Int) : (cur l ⟨i, b⟩).tx = x.tx := by rw [← er_tx, (cur_at h b).1]
theorem cur_kd (h : (l.map er).drop i = x :: r) (b : Int) : (cur l ⟨i, b⟩).kd = x.kd := by rw [← er_kd, (cur_at h b).1]
theorem cur_n (h : (l.map er).drop i = x :: r) (b : Int) : (cur l ⟨i, b⟩).n = x.n := by rw [← er_n, (cur_at h b).1]
theorem isP_at (h : (l.map er).drop i = x :: r) (t : Bs) : isP l t ⟨i, -1⟩ = decide ((x.kd = 1 ∨ x.kd = 3) ∧ x.tx = t) := by
  unfold isP
  rw [cur_tx h, cur_kd h]
  have : ((⟨i, -1⟩ : PS).bad < 0) := by show (-1 : Int) < 0; omega
  simp only [this, true_and]
theorem mustP_at (h : (l.map er).drop i = x :: r) {t : Bs} (hk : x.kd = 1 ∨ x.kd = 3) (ht : x.tx = t) : mustP l t ⟨i, -1⟩ = ⟨i + 1, -1⟩ := by
  unfold mustP
  rw [isP_at h, decide_eq_true ⟨hk, ht⟩, if_pos rfl]
theorem mustP_w {k : Bs} (h : (l.map er).drop i = wT k :: r) : mustP l k ⟨i, -1⟩ = ⟨i + 1, -1⟩ := mustP_at h (.inl rfl) rfl
theorem mustP_s {c : UInt8} (h : (l.map er).drop i = sT c :: r) : mustP l [c] ⟨i, -1⟩ = ⟨i + 1, -1⟩ := mustP_at h (.inr rfl) rfl
theorem kindP_at (h : (l.map er).drop i = x :: r) {k : Nat} (hk : x.kd = k) : kindP l k ⟨i, -1⟩ = ⟨i + 1, -1⟩ := by
  unfold kindP
  rw [cur_kd h, if_pos ⟨by show (-1 : Int) < 0; omega, hk⟩]
theorem kindP_w {w : Bs} (h : (l.map er).drop i = wT w :: r) : kindP l 1 ⟨i, -1⟩ = ⟨i + 1, -1⟩ := kindP_at h rfl
theorem kindP_n {n : Nat} (h : (l.map er).drop i = nT n :: r) : kindP l 2 ⟨i, -1⟩ = ⟨i + 1, -1⟩ := kindP_at h rfl
end

theorem numsG_at (l : List Tk) {x : Tk} {r : List Tk} (hx : x.kd ≠ 2) : ∀ (ns : List Nat) (f i : Nat) (out : List Tk), (l.map er).drop i = ns.map nT ++ x :: r → ns.length < f →
    ∃ ts j, numsG l f ⟨i, -1⟩ out = (out ++ ts, ⟨j, -1⟩) ∧ ts.map Tk.n = ns ∧ (l.map er).drop j = x :: r
  | [], f + 1, i, out, h, _ => by
    refine ⟨[], i, ?_, rfl, h⟩
    rw [numsG, if_neg (fun q => hx (by rw [← q.2, cur_kd h])), List.append_nil]
  | n :: ns, f + 1, i, out, h, hf => by
    have h' : (l.map er).drop i = nT n :: (ns.map nT ++ x :: r) := h
    obtain ⟨ts, j, h1, h2, h3⟩ := numsG_at l hx ns f (i + 1) (out ++ [cur l ⟨i, -1⟩]) (cur_at h' 0).2 (by simp only [List.length_cons] at hf; omega)
    refine ⟨cur l ⟨i, -1⟩ :: ts, j, ?_, ?_, h3⟩
    · rw [numsG, if_pos ⟨by show (-1 : Int) < 0; omega, by rw [cur_kd h']; rfl⟩, kindP_n h', h1, List.append_assoc]; rfl
    · rw [List.map_cons, cur_n h', h2]; rfl
theorem drop_le {l : List Tk} {i : Nat} {a : List Tk} (h : (l.map er).drop i = a) : a.length ≤ l.length := by
  rw [← h, List.length_drop, List.length_map]; omega
theorem numsP_at {l : List Tk} {x : Tk} {r : List Tk} (hx : x.kd ≠ 2) {ns : List Nat} {i : Nat} (hne : ns ≠ []) (h : (l.map er).drop i = ns.map nT ++ x :: r) :
    ∃ ts j, numsP l ⟨i, -1⟩ = (ts, ⟨j, -1⟩) ∧ ts.map Tk.n = ns ∧ (l.map er).drop j = x :: r := by
  cases ns with
  | nil => exact absurd rfl hne
  | cons n ns =>
    have h' : (l.map er).drop i = nT n :: (ns.map nT ++ x :: r) := h
    have hl := drop_le h'
    obtain ⟨ts, j, h1, h2, h3⟩ := numsG_at l hx ns (l.length + 1) (i + 1) [cur l ⟨i, -1⟩] (cur_at h' 0).2 (by simp only [List.length_cons, List.length_append, List.length_map] at hl; omega)
    refine ⟨cur l ⟨i, -1⟩ :: ts, j, ?_, ?_, h3⟩
    · unfold numsP
      rw [kindP_n h', h1]; rfl
    · rw [List.map_cons, cur_n h', h2]; rfl
/-- A statement with one number. -/
def OneLn (k : Bs) (n : Nat) (x : Ln) : Prop := x.key.tx = k ∧ ∃ t, x.a = [t] ∧ t.n = n
theorem oneP_at {l : List Tk} {r : List Tk} {k : Bs} {n i : Nat} (h : (l.map er).drop i = wT k :: nT n :: sT 59 :: r) :
    ∃ x j, oneP l k ⟨i, -1⟩ = (x, ⟨j, -1⟩) ∧ OneLn k n x ∧ (l.map er).drop j = r := by
  have h2 := (cur_at h 0).2
  have h3 := (cur_at h2 0).2
  have h4 := (cur_at h3 0).2
  refine ⟨⟨cur l ⟨i, -1⟩, [cur l ⟨i + 1, -1⟩], []⟩, i + 1 + 1 + 1, ?_, ?_, h4⟩
  · unfold oneP
    rw [mustP_w h, kindP_n h2, mustP_s h3]
  · exact ⟨cur_tx h _, _, rfl, cur_n h2 _⟩

/-- The tokens of a row. -/
def rowT (v : List Int) : List Tk :=
  if v.any (fun x => decide (x = 0)) then wT kLocal :: ((idxs 0 v).map nT ++ sT 58 :: ((vals v).map nT ++ [sT 59]))
  else wT kParity :: ((v.map Int.toNat).map nT ++ [sT 59])
/-- A row as it is written. -/
def RowLn (v : List Int) (x : Ln) : Prop :=
  if v.any (fun x => decide (x = 0)) then x.key.tx = kLocal ∧ x.a.map Tk.n = idxs 0 v ∧ x.b.map Tk.n = vals v
  else x.key.tx = kParity ∧ x.a.map Tk.n = v.map Int.toNat
theorem idxs_ne {v : List Int} (j : Nat) (h : v.any (fun x => decide (x ≠ 0)) = true) : idxs j v ≠ [] ∧ vals v ≠ [] := by
  induction v generalizing j with
  | nil => simp at h
  | cons x v ih =>
    unfold idxs vals
    by_cases hx : x = 0
    · rw [if_pos hx, if_pos hx]
      refine ih (j + 1) ?_
      simpa [hx] using h
    · rw [if_neg hx, if_neg hx]; simp
theorem rowP_at {l : List Tk} {r : List Tk} {v : List Int} {i : Nat} (hv : v.any (fun x => decide (x ≠ 0)) = true) (h : (l.map er).drop i = rowT v ++ r) :
    ∃ x j, rowP l ⟨i, -1⟩ = (x, ⟨j, -1⟩) ∧ RowLn v x ∧ (l.map er).drop j = r := by
  unfold rowT at h
  by_cases hz : v.any (fun x => decide (x = 0)) = true
  · rw [if_pos hz] at h
    have h' : (l.map er).drop i = wT kLocal :: ((idxs 0 v).map nT ++ sT 58 :: ((vals v).map nT ++ sT 59 :: r)) := by
      rw [h]; simp only [List.cons_append, List.append_assoc, List.nil_append]
    obtain ⟨ta, ja, a1, a2, a3⟩ := numsP_at (by decide) (idxs_ne 0 hv).1 (cur_at h' 0).2
    obtain ⟨tb, jb, b1, b2, b3⟩ := numsP_at (by decide) (idxs_ne 0 hv).2 (cur_at a3 0).2
    refine ⟨⟨cur l ⟨i, -1⟩, ta, tb⟩, jb + 1, ?_, by unfold RowLn; rw [if_pos hz]; exact ⟨cur_tx h' _, a2, b2⟩, (cur_at b3 0).2⟩
    unfold rowP
    rw [isP_at h', decide_eq_true ⟨.inl rfl, rfl⟩, if_pos rfl, mustP_w h', a1]
    dsimp only
    rw [mustP_s a3, b1]
    dsimp only
    rw [mustP_s b3]
  · rw [if_neg hz] at h
    have h' : (l.map er).drop i = wT kParity :: ((v.map Int.toNat).map nT ++ sT 59 :: r) := by
      rw [h]; simp only [List.cons_append, List.append_assoc, List.nil_append]
    have hne : v.map Int.toNat ≠ [] := by
      intro q
      rw [List.map_eq_nil_iff] at q
      rw [q] at hv; simp at hv
    obtain ⟨ta, ja, a1, a2, a3⟩ := numsP_at (by decide) hne (cur_at h' 0).2
    refine ⟨⟨cur l ⟨i, -1⟩, ta, []⟩, ja + 1, ?_, by unfold RowLn; rw [if_neg hz]; exact ⟨cur_tx h' _, a2⟩, (cur_at a3 0).2⟩
    unfold rowP
    rw [isP_at h', decide_eq_false (by rintro ⟨_, q⟩; exact absurd q (by decide)), if_neg (by simp), mustP_w h', a1]
    dsimp only
    rw [mustP_s a3]

def All2 {α β : Type} (P : α → β → Prop) : List α → List β → Prop
  | [], [] => True
  | a :: as, b :: bs => P a b ∧ All2 P as bs
  | _, _ => False
theorem rowT_head (v : List Int) : ∃ k r, rowT v = wT k :: r ∧ (k = kLocal ∨ k = kParity) := by
  unfold rowT
  split
  · exact ⟨_, _, rfl, .inl rfl⟩
  · exact ⟨_, _, rfl, .inr rfl⟩
theorem rowsG_at (l : List Tk) {x : Tk} {r : List Tk} (hx : x.tx ≠ kLocal ∧ x.tx ≠ kParity) : ∀ (vs : List (List Int)) (f i : Nat) (first : Bool) (out : List Ln),
    (∀ v ∈ vs, v.any (fun x => decide (x ≠ 0)) = true) → (l.map er).drop i = vs.flatMap rowT ++ x :: r → vs.length < f → (first = true → vs ≠ []) →
    ∃ xs j, rowsG l f first ⟨i, -1⟩ out = (out ++ xs, ⟨j, -1⟩) ∧ All2 RowLn vs xs ∧ (l.map er).drop j = x :: r
  | [], f + 1, i, first, out, _, h, _, hf1 => by
    refine ⟨[], i, ?_, trivial, h⟩
    have h' : (l.map er).drop i = x :: r := h
    rw [rowsG, if_neg, List.append_nil]
    rintro ⟨_, q | q | q⟩
    · exact hf1 q rfl
    · rw [isP_at h'] at q; exact hx.2 (of_decide_eq_true q).2
    · rw [isP_at h'] at q; exact hx.1 (of_decide_eq_true q).2
  | v :: vs, f + 1, i, first, out, hv, h, hf, _ => by
    have h' : (l.map er).drop i = rowT v ++ (vs.flatMap rowT ++ x :: r) := by rw [h, List.flatMap_cons, List.append_assoc]
    obtain ⟨ln, j, h1, h2, h3⟩ := rowP_at (hv v (by simp)) h'
    obtain ⟨xs, j2, h4, h5, h6⟩ := rowsG_at l hx vs f j false (out ++ [ln]) (fun u hu => hv u (by simp [hu])) h3 (by simp only [List.length_cons] at hf; omega) (by simp)
    refine ⟨ln :: xs, j2, ?_, ⟨h2, h5⟩, h6⟩
    obtain ⟨k, rr, hk, hk2⟩ := rowT_head v
    have h'' : (l.map er).drop i = wT k :: (rr ++ (vs.flatMap rowT ++ x :: r)) := by rw [h', hk]; rfl
    rw [rowsG, if_pos, h1]
    · show rowsG l f false ⟨j, -1⟩ (out ++ [ln]) = _
      rw [h4, List.append_assoc]; rfl
    · refine ⟨by show (-1 : Int) < 0; omega, .inr ?_⟩
      rcases hk2 with rfl | rfl
      · exact .inr (by rw [isP_at h'']; exact decide_eq_true ⟨.inl rfl, rfl⟩)
      · exact .inl (by rw [isP_at h'']; exact decide_eq_true ⟨.inl rfl, rfl⟩)
/-- The tokens of a code. -/
def codeT (c : Cd) : List Tk :=
  [wT kCode, wT c.name, sT 123, wT kField, nT c.field.toNat, sT 59, wT kData, nT c.data.toNat, sT 59] ++ c.par.flatMap rowT ++ [wT kDomain, nT c.dom.toNat, sT 59, sT 125]
/-- A code as it is written. -/
def SrcOf (c : Cd) (s : Sc) : Prop :=
  s.name.tx = c.name ∧ ∃ lf ld rs lm, s.lines = lf :: ld :: (rs ++ [lm]) ∧ OneLn kField c.field.toNat lf ∧ OneLn kData c.data.toNat ld ∧ All2 RowLn c.par rs ∧ OneLn kDomain c.dom.toNat lm
theorem Good.any {c : Cd} (h : Good c) : ∀ v ∈ c.par, v.any (fun x => decide (x ≠ 0)) = true := fun v hv => by
  have := h.rows v hv
  unfold rowOk at this
  rw [Bool.and_eq_true] at this
  exact this.2
theorem rowT_pos (vs : List (List Int)) : vs.length ≤ (vs.flatMap rowT).length := by
  induction vs with
  | nil => simp
  | cons v vs ih =>
    obtain ⟨k, r, h, _⟩ := rowT_head v
    rw [List.flatMap_cons, List.length_append, h]
    simp only [List.length_cons]
    omega
theorem codeP_at {l : List Tk} {c : Cd} {i : Nat} {r : List Tk} (hc : Good c) (h : (l.map er).drop i = codeT c ++ r) :
    ∃ s j, codeP l ⟨i, -1⟩ = (s, ⟨j, -1⟩) ∧ SrcOf c s ∧ (l.map er).drop j = r := by
  have h0 : (l.map er).drop i = wT kCode :: wT c.name :: sT 123 :: wT kField :: nT c.field.toNat :: sT 59 :: wT kData :: nT c.data.toNat :: sT 59 :: (c.par.flatMap rowT ++ wT kDomain :: nT c.dom.toNat :: sT 59 :: sT 125 :: r) := by
    rw [h]; unfold codeT; simp only [List.cons_append, List.append_assoc, List.nil_append]
  have h1 := (cur_at h0 0).2
  have h2 := (cur_at h1 0).2
  have h3 := (cur_at h2 0).2
  obtain ⟨lf, j1, f1, f2, f3⟩ := oneP_at h3
  obtain ⟨ld, j2, d1, d2, d3⟩ := oneP_at f3
  have hlen := drop_le d3
  have hpos := rowT_pos c.par
  obtain ⟨rs, j3, r1, r2, r3⟩ := rowsG_at l (by decide) c.par (l.length + 1) j2 true [lf, ld] hc.any d3 (by rw [List.length_append] at hlen; omega) (fun _ => hc.ne)
  obtain ⟨lm, j4, m1, m2, m3⟩ := oneP_at r3
  refine ⟨⟨cur l ⟨i + 1, -1⟩, lf :: ld :: (rs ++ [lm])⟩, j4 + 1, ?_, ⟨cur_tx h1 _, lf, ld, rs, lm, rfl, f2, d2, r2, m2⟩, (cur_at m3 0).2⟩
  have hb : bodyP l ⟨i + 1 + 1 + 1, -1⟩ = ([lf, ld] ++ rs, ⟨j3, -1⟩) := by
    unfold bodyP
    rw [f1]
    dsimp only
    rw [d1]
    exact r1
  have he : endP l ([lf, ld] ++ rs, ⟨j3, -1⟩) = (lf :: ld :: (rs ++ [lm]), ⟨j4, -1⟩) := by
    unfold endP
    dsimp only
    rw [isP_at r3, decide_eq_true ⟨.inl rfl, rfl⟩, if_pos rfl, m1]
    rfl
  unfold codeP headP
  rw [mustP_w h0, kindP_w h1, mustP_s h2, hb, he]
  dsimp only
  rw [mustP_s m3]

end Go.Proofs.YtcogkdnlpjfgdaaGreatDoor
