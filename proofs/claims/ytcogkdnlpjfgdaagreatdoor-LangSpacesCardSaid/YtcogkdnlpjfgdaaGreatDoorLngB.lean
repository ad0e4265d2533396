/-
  Tokens of texts that are made of tokens and gaps. No program stands behind this text.
-/
import Derived.Test.YtcogkdnlpjfgdaaGreatDoorLngA
namespace Go.Proofs.YtcogkdnlpjfgdaaGreatDoor
set_option linter.unusedVariables false
set_option linter.unusedSimpArgs false

theorem numS_lt {n : Nat} (h : n < 10) : numS n = [UInt8.ofNat (48 + n)] := by rw [numS, if_pos h]
theorem numS_ge {n : Nat} (h : 10 ≤ n) : numS n = numS (n / 10) ++ [UInt8.ofNat (48 + n % 10)] := by rw [numS, if_neg (by omega)]
theorem u8_of {n : Nat} (h : n < 256) : (UInt8.ofNat n).toNat = n := by rw [UInt8.toNat_ofNat']; omega
theorem digB_of {n : Nat} (h : n < 10) : digB (UInt8.ofNat (48 + n)) = true := by
  unfold digB
  rw [u8_of (by omega)]
  exact decide_eq_true ⟨by omega, by omega⟩
theorem numS_dig (n : Nat) : ∀ c ∈ numS n, digB c = true := by
  induction n using Nat.strongRecOn with
  | ind n ih =>
    intro c hc
    by_cases h : n < 10
    · rw [numS_lt h, List.mem_singleton] at hc
      rw [hc]; exact digB_of h
    · rw [numS_ge (by omega), List.mem_append, List.mem_singleton] at hc
      rcases hc with hc | hc
      · exact ih (n / 10) (by omega) c hc
      · rw [hc]; exact digB_of (by omega)
theorem numS_ne (n : Nat) : numS n ≠ [] := by
  by_cases h : n < 10
  · rw [numS_lt h]; simp
  · rw [numS_ge (by omega)]; simp
theorem valS_snoc (l : Bs) (c : UInt8) : valS (l ++ [c]) = 10 * valS l + (c.toNat - 48) := by unfold valS; rw [List.foldl_append]; rfl
theorem numS_val (n : Nat) : valS (numS n) = n := by
  induction n using Nat.strongRecOn with
  | ind n ih =>
    by_cases h : n < 10
    · rw [numS_lt h]
      show 10 * 0 + ((UInt8.ofNat (48 + n)).toNat - 48) = n
      rw [u8_of (by omega)]; omega
    · rw [numS_ge (by omega), valS_snoc, ih (n / 10) (by omega), u8_of (by omega)]; omega
theorem numS_len (k : Nat) : ∀ n, n < 10 ^ (k + 1) → (numS n).length ≤ k + 1 := by
  induction k with
  | zero => intro n h; rw [numS_lt (by omega)]; simp
  | succ k ih =>
    intro n h
    by_cases h2 : n < 10
    · rw [numS_lt h2]; simp
    · rw [numS_ge (by omega), List.length_append]
      have := ih (n / 10) (by rw [Nat.pow_succ] at h; omega)
      simp only [List.length_singleton]
      omega
theorem numS_head (n : Nat) : 1 ≤ n → ∀ c r, numS n = c :: r → c ≠ 48 := by
  induction n using Nat.strongRecOn with
  | ind n ih =>
    intro h1 c r h
    by_cases h2 : n < 10
    · rw [numS_lt h2] at h
      injection h with h _
      intro h3
      have := u8_of (n := 48 + n) (by omega)
      rw [h, h3] at this
      have h4 : (48 : UInt8).toNat = 48 := rfl
      omega
    · rw [numS_ge (by omega)] at h
      cases hq : numS (n / 10) with
      | nil => exact absurd hq (numS_ne _)
      | cons c' r' =>
        rw [hq, List.cons_append] at h
        injection h with h _
        rw [← h]
        exact ih (n / 10) (by omega) (by omega) c' r' hq

/-- What follows does not go on with bytes of a kind. -/
def Stop (p : UInt8 → Bool) (r : Bs) : Prop := ∀ c, r.head? = some c → p c = false
theorem tw_app {p : UInt8 → Bool} {r : Bs} (hr : Stop p r) : ∀ t : Bs, (∀ c ∈ t, p c = true) → (t ++ r).takeWhile p = t
  | [], _ => by
    cases r with
    | nil => rfl
    | cons c r => rw [List.nil_append, List.takeWhile_cons, hr c rfl]; rfl
  | c :: t, h => by
    rw [List.cons_append, List.takeWhile_cons, h c (by simp), if_pos rfl, tw_app hr t fun x hx => h x (by simp [hx])]
theorem dig_let {c : UInt8} (h : digB c = true) : letB c = false := by
  unfold digB at h
  unfold letB
  have := of_decide_eq_true h
  exact decide_eq_false (by omega)
theorem sign_is {c : UInt8} (h : signB c = true) : letB c = false ∧ digB c = false ∧ alnB c = false ∧ blank c = false ∧ c ≠ 35 := by
  rcases of_decide_eq_true h with rfl | rfl | rfl | rfl <;> exact ⟨rfl, rfl, rfl, rfl, by decide⟩
theorem aln_is {c : UInt8} (h : alnB c = true) : blank c = false ∧ c ≠ 35 := by
  have h1 : 48 ≤ c.toNat := by
    unfold alnB letB digB at h
    rw [Bool.or_eq_true] at h
    rcases h with h | h <;> (have := of_decide_eq_true h; omega)
  constructor
  · unfold blank
    refine decide_eq_false ?_
    rintro (rfl | rfl | rfl) <;> exact absurd h1 (by decide)
  · rintro rfl; exact absurd h1 (by decide)
theorem wordB_all {t : Bs} (h : wordB t = true) : ∀ c ∈ t, alnB c = true := by
  cases t with
  | nil => simp [wordB] at h
  | cons c r =>
    unfold wordB at h
    rw [Bool.and_eq_true] at h
    exact List.all_eq_true.1 h.2

def er (t : Tk) : Tk := ⟨t.tx, 0, t.kd, t.n⟩
def wT (w : Bs) : Tk := ⟨w, 0, 1, 0⟩
def nT (n : Nat) : Tk := ⟨numS n, 0, 2, n⟩
def sT (c : UInt8) : Tk := ⟨[c], 0, 3, 0⟩
def eT : Tk := ⟨[], 0, 4, 0⟩
/-- A token as it may stand in a text. -/
inductive IsT : Tk → Prop
  | word (w : Bs) (h : wordB w = true) : IsT (wT w)
  | num (n : Nat) (h : n < 100000) : IsT (nT n)
  | sign (c : UInt8) (h : signB c = true) : IsT (sT c)
theorem IsT.head {t : Tk} (h : IsT t) : ∃ c r, t.tx = c :: r ∧ blank c = false ∧ c ≠ 35 ∧ (t.kd = 3 → alnB c = false) := by
  cases h with
  | word w h =>
    cases w with
    | nil => simp [wordB] at h
    | cons c r => exact ⟨c, r, rfl, (aln_is (wordB_all h c (by simp))).1, (aln_is (wordB_all h c (by simp))).2, fun q => by simp [wT] at q⟩
  | num n h =>
    cases hn : numS n with
    | nil => exact absurd hn (numS_ne n)
    | cons c r =>
      have ha : alnB c = true := by unfold alnB; rw [numS_dig n c (by rw [hn]; simp)]; simp
      exact ⟨c, r, hn, (aln_is ha).1, (aln_is ha).2, fun q => by simp [nT] at q⟩
  | sign c h => exact ⟨c, [], rfl, (sign_is h).2.2.2.1, (sign_is h).2.2.2.2, fun _ => (sign_is h).2.2.1⟩
theorem IsT.pos {t : Tk} (h : IsT t) : 1 ≤ t.tx.length := by
  obtain ⟨c, r, e, _⟩ := h.head
  rw [e]; simp
theorem IsT.kd {t : Tk} (h : IsT t) : t.kd ≤ 3 := by cases h <;> simp [wT, nT, sT]
theorem IsT.er {t : Tk} (h : IsT t) (p : Nat) : er { t with ps := p } = t := by cases h <;> rfl
theorem stop_dig {r : Bs} (h : Stop alnB r) : Stop digB r := fun c hc => by
  have := h c hc
  unfold alnB at this
  simpa using (Bool.or_eq_false_iff.1 this).2
theorem tokS_cons (p : Nat) (c : UInt8) (r : Bs) : tokS p (c :: r) =
    if letB c then ⟨(c :: r).takeWhile alnB, p, 1, 0⟩
    else if digB c then
      if 5 < ((c :: r).takeWhile digB).length ∨ c = 48 ∧ 1 < ((c :: r).takeWhile digB).length then ⟨[], p, 5, 0⟩
      else ⟨(c :: r).takeWhile digB, p, 2, valS ((c :: r).takeWhile digB)⟩
    else if signB c then ⟨[c], p, 3, 0⟩ else ⟨[], p, 5, 0⟩ := rfl
theorem tokS_is {t : Tk} (h : IsT t) {r : Bs} (hr : t.kd = 3 ∨ Stop alnB r) (p : Nat) : tokS p (t.tx ++ r) = { t with ps := p } := by
  cases h with
  | word w h =>
    have hs : Stop alnB r := by
      rcases hr with h | h
      · simp [wT] at h
      · exact h
    cases w with
    | nil => simp [wordB] at h
    | cons c w =>
      have hl : letB c = true := by unfold wordB at h; rw [Bool.and_eq_true] at h; exact h.1
      have htw := tw_app hs (c :: w) (wordB_all h)
      show tokS p (c :: (w ++ r)) = _
      rw [tokS_cons, if_pos hl, ← List.cons_append, htw]
      rfl
  | num n h =>
    have hs : Stop alnB r := by
      rcases hr with h | h
      · simp [nT] at h
      · exact h
    have htw := tw_app (stop_dig hs) (numS n) (numS_dig n)
    have hlen := numS_len 4 n (by omega)
    have hh := numS_head n
    have hlt := @numS_lt n
    have hv := numS_val n
    have hd := numS_dig n
    show tokS p (numS n ++ r) = ⟨numS n, p, 2, n⟩
    cases hn : numS n with
    | nil => exact absurd hn (numS_ne n)
    | cons c w =>
      rw [hn] at htw hlen hv hd
      have hdc := hd c (by simp)
      show tokS p (c :: (w ++ r)) = _
      rw [tokS_cons, if_neg (by rw [dig_let hdc]; simp), if_pos hdc, ← List.cons_append, htw, if_neg, hv]
      rintro (q | ⟨q, q2⟩)
      · omega
      · rcases Nat.eq_zero_or_pos n with h0 | h0
        · rw [hlt (by omega)] at hn
          injection hn with _ hn
          rw [← hn] at q2
          simp at q2
        · exact hh h0 c w hn q
  | sign c h =>
    obtain ⟨h1, h2, _⟩ := sign_is h
    show tokS p (c :: r) = _
    rw [tokS_cons, if_neg (by rw [h1]; simp), if_neg (by rw [h2]; simp), if_pos h]
    rfl

/-- Bytes that belong to no token, whatever follows. -/
def Gap (g : Bs) : Prop := ∀ r, skp false (g ++ r) = g.length + skp false r
theorem gap_nil : Gap [] := fun r => by simp
theorem gap_blank {g : Bs} (h : ∀ c ∈ g, blank c = true) : Gap g := by
  induction g with
  | nil => exact gap_nil
  | cons c g ih =>
    intro r
    rw [List.cons_append, skp, if_pos (h c (by simp)), ih (fun x hx => h x (by simp [hx])) r, List.length_cons]
    omega
theorem skp_stop {c : UInt8} (h1 : blank c = false) (h2 : c ≠ 35) (r : Bs) : skp false (c :: r) = 0 := by
  rw [skp, if_neg (by rw [h1]; simp), if_neg h2]
theorem IsT.skp {t : Tk} (h : IsT t) (r : Bs) : skp false (t.tx ++ r) = 0 := by
  obtain ⟨c, w, e, h1, h2, _⟩ := h.head
  rw [e, List.cons_append, skp_stop h1 h2]
theorem gap_head {g : Bs} (h : Gap g) (hne : g ≠ []) (r : Bs) : Stop alnB (g ++ r) := by
  cases g with
  | nil => exact absurd rfl hne
  | cons c g =>
    intro x hx
    rw [List.cons_append, List.head?_cons] at hx
    injection hx with hx
    subst hx
    have := h []
    rw [List.append_nil] at this
    rw [Bool.eq_false_iff]
    intro ha
    obtain ⟨h1, h2⟩ := aln_is ha
    rw [skp_stop h1 h2] at this
    simp only [List.length_cons] at this
    omega

abbrev Pc := Bs × Tk
def glue (l : List Pc) : Bs := l.flatMap fun x => x.1 ++ x.2.tx
/-- Gaps and tokens that go together, behind a token of kind k. -/
def goodP : Nat → List Pc → Prop
  | _, [] => True
  | k, x :: r => Gap x.1 ∧ IsT x.2 ∧ (k = 3 ∨ x.2.kd = 3 ∨ x.1 ≠ []) ∧ goodP x.2.kd r
theorem goodP_cons (k : Nat) (x : Pc) (r : List Pc) : goodP k (x :: r) ↔ Gap x.1 ∧ IsT x.2 ∧ (k = 3 ∨ x.2.kd = 3 ∨ x.1 ≠ []) ∧ goodP x.2.kd r := Iff.rfl
theorem goodP_app : ∀ (a b : List Pc) (k : Nat), goodP k (a ++ b) ↔ goodP k a ∧ goodP ((a.getLast?.map fun x => x.2.kd).getD k) b
  | [], b, k => by simp [goodP]
  | x :: a, b, k => by
    have ih := goodP_app a b x.2.kd
    rw [List.cons_append, goodP_cons, goodP_cons, ih]
    have : ((x :: a).getLast?.map fun x => x.2.kd).getD k = (a.getLast?.map fun x => x.2.kd).getD x.2.kd := by
      cases a with
      | nil => rfl
      | cons y a => rw [List.getLast?_cons_cons]; cases h : (y :: a).getLast? with
        | none => simp at h
        | some z => rfl
    rw [this]
    constructor
    · rintro ⟨h1, h2, h3, h4, h5⟩; exact ⟨⟨h1, h2, h3, h4⟩, h5⟩
    · rintro ⟨⟨h1, h2, h3, h4⟩, h5⟩; exact ⟨h1, h2, h3, h4, h5⟩
theorem goodP_stop {k : Nat} {l : List Pc} {tail : Bs} (h : goodP k l) (ht : Gap tail) (hk : k ≠ 3) : Stop alnB (glue l ++ tail) := by
  cases l with
  | nil =>
    show Stop alnB tail
    by_cases h0 : tail = []
    · rw [h0]; intro c hc; simp at hc
    · have := gap_head ht h0 []
      rwa [List.append_nil] at this
  | cons x l =>
    obtain ⟨h1, h2, h3, _⟩ := h
    show Stop alnB (x.1 ++ x.2.tx ++ glue l ++ tail)
    rw [List.append_assoc, List.append_assoc]
    by_cases h0 : x.1 = []
    · have hs : x.2.kd = 3 := by
        rcases h3 with h | h | h
        · exact absurd h hk
        · exact h
        · exact absurd h0 h
      obtain ⟨c, w, e, _, _, h4⟩ := h2.head
      rw [h0, e]
      intro c' hc
      rw [List.nil_append, List.cons_append, List.head?_cons] at hc
      injection hc with hc
      rw [← hc]; exact h4 hs
    · exact gap_head h1 h0 _
theorem toksS_end {tail : Bs} (ht : Gap tail) (f p : Nat) : toksS (f + 1) tail p = [⟨[], p + tail.length, 4, 0⟩] := by
  have h := ht []
  rw [List.append_nil] at h
  have h0 : skp false [] = 0 := rfl
  rw [h0, Nat.add_zero] at h
  have hn : nextS tail p = ⟨[], p + tail.length, 4, 0⟩ := by
    unfold nextS
    rw [h, List.drop_length]
    rfl
  rw [toksS, hn, if_pos (by show 3 < 4; omega)]
theorem toks_glue {tail : Bs} (ht : Gap tail) : ∀ (l : List Pc) (k f p : Nat), goodP k l → l.length < f → (toksS f (glue l ++ tail) p).map er = l.map Prod.snd ++ [eT]
  | [], _, f + 1, p, _, _ => by
    show (toksS (f + 1) tail p).map er = _
    rw [toksS_end ht]; rfl
  | x :: l, k, f + 1, p, h, hf => by
    obtain ⟨h1, h2, h3, h4⟩ := h
    have hg : glue (x :: l) ++ tail = x.1 ++ (x.2.tx ++ (glue l ++ tail)) := by
      show x.1 ++ x.2.tx ++ glue l ++ tail = _
      simp only [List.append_assoc]
    have hsk : skp false (x.1 ++ (x.2.tx ++ (glue l ++ tail))) = x.1.length := by rw [h1, h2.skp]; rfl
    have hst : x.2.kd = 3 ∨ Stop alnB (glue l ++ tail) := by
      by_cases q : x.2.kd = 3
      · exact .inl q
      · exact .inr (goodP_stop h4 ht q)
    have hnx : nextS (x.1 ++ (x.2.tx ++ (glue l ++ tail))) p = { x.2 with ps := p + x.1.length } := by
      unfold nextS
      rw [hsk, List.drop_left, tokS_is h2 hst]
    rw [hg, toksS, hnx, hsk, if_neg (by have := h2.kd; show ¬ 3 < x.2.kd; omega), List.map_cons, h2.er]
    show x.2 :: _ = x.2 :: (l.map Prod.snd ++ [eT])
    congr 1
    have hd : (x.1 ++ (x.2.tx ++ (glue l ++ tail))).drop (x.1.length + x.2.tx.length) = glue l ++ tail := by
      rw [← List.append_assoc, ← List.length_append, List.drop_left]
    show (toksS f ((x.1 ++ (x.2.tx ++ (glue l ++ tail))).drop (x.1.length + x.2.tx.length)) _).map er = _
    rw [hd]
    exact toks_glue ht l _ f _ h4 (by simp only [List.length_cons] at hf; omega)
theorem glue_len : ∀ (l : List Pc) (k : Nat), goodP k l → l.length ≤ (glue l).length
  | [], _, _ => by simp
  | x :: l, k, h => by
    have h2 := h.2.1.pos
    have ih := glue_len l _ h.2.2.2
    show l.length + 1 ≤ (x.1 ++ x.2.tx ++ glue l).length
    rw [List.length_append, List.length_append]
    omega
theorem toks_pieces {l : List Pc} {tail : Bs} (ht : Gap tail) (h : goodP 3 l) : (toks (glue l ++ tail)).map er = l.map Prod.snd ++ [eT] := by
  have := glue_len l 3 h
  exact toks_glue ht l 3 _ 0 h (by rw [List.length_append]; omega)

end Go.Proofs.YtcogkdnlpjfgdaaGreatDoor
