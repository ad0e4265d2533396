/-
  The printed text as tokens and gaps: what was printed is parsed as what it was, also with other gaps. No program stands behind this text.
-/
import Derived.Test.YtcogkdnlpjfgdaaGreatDoorLngD
namespace Go.Proofs.YtcogkdnlpjfgdaaGreatDoor
set_option linter.unusedVariables false
set_option linter.unusedSimpArgs false

theorem glue_app (a b : List Pc) : glue (a ++ b) = glue a ++ glue b := by unfold glue; rw [List.flatMap_append]
theorem glue_cons (x : Pc) (b : List Pc) : glue (x :: b) = x.1 ++ x.2.tx ++ glue b := rfl
theorem glue_nums (ns : List Nat) : glue (ns.map fun n => (([32] : Bs), nT n)) = ns.flatMap sp := by
  induction ns with
  | nil => rfl
  | cons n ns ih => rw [List.map_cons, glue_cons, ih, List.flatMap_cons]; rfl
/-- A row's tokens with the gaps that are printed. -/
def rowPc (v : List Int) : List Pc :=
  if v.any (fun x => decide (x = 0)) then (nt, wT kLocal) :: ((idxs 0 v).map (fun n => (([32] : Bs), nT n)) ++ ([], sT 58) :: ((vals v).map (fun n => (([32] : Bs), nT n)) ++ [([], sT 59)]))
  else (nt, wT kParity) :: ((v.map Int.toNat).map (fun n => (([32] : Bs), nT n)) ++ [([], sT 59)])
theorem rowPc_snd (v : List Int) : (rowPc v).map Prod.snd = rowT v := by
  unfold rowPc rowT
  split
  · simp [List.map_map, Function.comp_def]
  · simp [List.map_map, Function.comp_def]
theorem rowPc_glue (v : List Int) : glue (rowPc v) = nt ++ rowS v := by
  unfold rowPc rowS
  split
  · rw [glue_cons, glue_app, glue_nums, glue_cons, glue_app, glue_nums]
    show nt ++ kLocal ++ ((idxs 0 v).flatMap sp ++ ([] ++ [58] ++ ((vals v).flatMap sp ++ ([] ++ [59] ++ [])))) = _
    simp only [List.append_assoc, List.nil_append, List.append_nil]
  · rw [glue_cons, glue_app, glue_nums]
    show nt ++ kParity ++ ((v.map Int.toNat).flatMap sp ++ ([] ++ [59] ++ [])) = _
    simp only [List.append_assoc, List.nil_append, List.append_nil]
/-- A code's tokens with the gaps that are printed, the first one given. -/
def codePc (g : Bs) (c : Cd) : List Pc :=
  [(g, wT kCode), ([32], wT c.name), ([32], sT 123), (nt, wT kField), ([32], nT c.field.toNat), ([], sT 59), (nt, wT kData), ([32], nT c.data.toNat), ([], sT 59)]
    ++ c.par.flatMap rowPc ++ [(nt, wT kDomain), ([32], nT c.dom.toNat), ([], sT 59), ([10], sT 125)]
theorem rows_snd (vs : List (List Int)) : (vs.flatMap rowPc).map Prod.snd = vs.flatMap rowT := by
  induction vs with
  | nil => rfl
  | cons v vs ih => rw [List.flatMap_cons, List.map_append, ih, rowPc_snd, List.flatMap_cons]
theorem codePc_snd (g : Bs) (c : Cd) : (codePc g c).map Prod.snd = codeT c := by
  unfold codePc codeT
  rw [List.map_append, List.map_append, rows_snd]
  rfl
theorem rows_glue (vs : List (List Int)) : glue (vs.flatMap rowPc) ++ [10] = [10] ++ vs.flatMap (fun l => [9] ++ rowS l ++ [10]) := by
  induction vs with
  | nil => rfl
  | cons v vs ih =>
    rw [List.flatMap_cons, glue_app, List.append_assoc, ih, rowPc_glue, List.flatMap_cons]
    simp [nt]
theorem codePc_glue (g : Bs) (c : Cd) : glue (codePc g c) ++ [10] = g ++ printS c := by
  have hr := rows_glue c.par
  unfold codePc printS
  rw [glue_app, glue_app]
  have h1 : glue [(g, wT kCode), ([32], wT c.name), ([32], sT 123), (nt, wT kField), ([32], nT c.field.toNat), ([], sT 59), (nt, wT kData), ([32], nT c.data.toNat), ([], sT 59)]
      = g ++ (kCode ++ [32] ++ c.name ++ [32, 123, 10, 9] ++ kField ++ sp c.field.toNat ++ [59, 10, 9] ++ kData ++ sp c.data.toNat ++ [59]) := by
    simp [glue, nt, wT, nT, sT, sp]
  have h2 : glue [(nt, wT kDomain), ([32], nT c.dom.toNat), ([], sT 59), ([10], sT 125)] ++ [10] = [10] ++ ([9] ++ kDomain ++ sp c.dom.toNat ++ [59, 10, 125, 10]) := by
    simp [glue, nt, wT, nT, sT, sp]
  rw [h1, List.append_assoc, List.append_assoc, h2]
  have h3 : glue (c.par.flatMap rowPc) ++ ([10] ++ ([9] ++ kDomain ++ sp c.dom.toNat ++ [59, 10, 125, 10])) = [10] ++ c.par.flatMap (fun l => [9] ++ rowS l ++ [10]) ++ ([9] ++ kDomain ++ sp c.dom.toNat ++ [59, 10, 125, 10]) := by
    rw [← List.append_assoc, hr]
  rw [h3]
  simp only [List.append_assoc, List.cons_append, List.nil_append]

theorem gap_one {g : Bs} (h : g.all blank = true) : Gap g := gap_blank (List.all_eq_true.1 h)
/-- Pieces that go together whatever token stands ahead of them and behind them: the last one is a sign. -/
theorem goodP_mono {l : List Pc} {k : Nat} (h : goodP k l) (h3 : ∀ x r, l = x :: r → x.2.kd = 3 ∨ x.1 ≠ []) (k' : Nat) : goodP k' l := by
  cases l with
  | nil => trivial
  | cons x r => exact ⟨h.1, h.2.1, .inr (h3 x r rfl), h.2.2.2⟩
theorem good_nums : ∀ (ns : List Nat) (k : Nat) (rest : List Pc), (∀ n ∈ ns, n < 100000) → (∀ k, goodP k rest) → goodP k (ns.map (fun n => (([32] : Bs), nT n)) ++ rest)
  | [], k, rest, _, hr => hr k
  | n :: ns, k, rest, h, hr => ⟨gap_one rfl, .num n (h n (by simp)), .inr (.inr (by simp)), good_nums ns 2 rest (fun m hm => h m (by simp [hm])) hr⟩
theorem word_ok {w : Bs} (h : wordB w = true) : IsT (wT w) := .word w h
theorem good_row {f d : Int} {v : List Int} (h : rowOk f d v = true) (hd : d ≤ 31) (rest : List Pc) (hr : ∀ k, goodP k rest) (k : Nat) : goodP k (rowPc v ++ rest) := by
  obtain ⟨h1, h2, h3⟩ := rowOk_is h
  have ht : topF f ≤ 65535 := by unfold topF; split <;> omega
  have hv : ∀ y ∈ v, y.toNat < 100000 := fun y hy => by have := h2 y hy; omega
  unfold rowPc
  split
  · rw [List.cons_append, List.append_assoc, List.cons_append, List.append_assoc]
    refine ⟨gap_one rfl, word_ok rfl, .inr (.inr (by decide)), ?_⟩
    refine good_nums _ _ _ (fun n hn => by have := idxs_lt v 0 n hn; omega) fun k => ?_
    refine ⟨gap_nil, .sign 58 rfl, .inr (.inl rfl), ?_⟩
    refine good_nums _ _ _ (fun n hn => by
      obtain ⟨y, hy, _, e⟩ := vals_mem v n hn
      rw [e]; exact hv y hy) fun k => ?_
    exact ⟨gap_nil, .sign 59 rfl, .inr (.inl rfl), hr 3⟩
  · rw [List.cons_append, List.append_assoc]
    refine ⟨gap_one rfl, word_ok rfl, .inr (.inr (by decide)), ?_⟩
    refine good_nums _ _ _ (fun n hn => by
      obtain ⟨y, hy, e⟩ := List.mem_map.1 hn
      rw [← e]; exact hv y hy) fun k => ?_
    exact ⟨gap_nil, .sign 59 rfl, .inr (.inl rfl), hr 3⟩
theorem good_rows {f d : Int} (hd : d ≤ 31) (rest : List Pc) (hr : ∀ k, goodP k rest) : ∀ (vs : List (List Int)), (∀ v ∈ vs, rowOk f d v = true) → ∀ k, goodP k (vs.flatMap rowPc ++ rest)
  | [], _, k => hr k
  | v :: vs, h, k => by
    rw [List.flatMap_cons, List.append_assoc]
    exact good_row (h v (by simp)) hd _ (good_rows hd rest hr vs fun u hu => h u (by simp [hu])) k
theorem good_code {c : Cd} (hc : Good c) {g : Bs} (hg : Gap g) {k : Nat} (hk : k = 3 ∨ g ≠ []) (rest : List Pc) (hr : goodP 3 rest) : goodP k (codePc g c ++ rest) := by
  have g1 := hc.field
  have g2 := hc.d2
  have g3 := hc.d1
  have g4 := hc.width
  have g5 := hc.dom2
  unfold codePc
  rw [List.append_assoc, List.append_assoc]
  refine ⟨hg, word_ok rfl, ?_, gap_one rfl, word_ok hc.word, .inr (.inr (by simp)), gap_one rfl, .sign 123 rfl, .inr (.inl rfl), gap_one rfl, word_ok rfl, .inl rfl, gap_one rfl, .num _ (by omega), .inr (.inr (by simp)),
    gap_nil, .sign 59 rfl, .inr (.inl rfl), gap_one rfl, word_ok rfl, .inl rfl, gap_one rfl, .num _ (by omega), .inr (.inr (by simp)), gap_nil, .sign 59 rfl, .inr (.inl rfl), ?_⟩
  · rcases hk with h | h
    · exact .inl h
    · exact .inr (.inr h)
  · refine good_rows g2 _ (fun k => ?_) c.par hc.rows 3
    exact ⟨gap_one rfl, word_ok rfl, .inr (.inr (by decide)), gap_one rfl, .num _ (by omega), .inr (.inr (by simp)), gap_nil, .sign 59 rfl, .inr (.inl rfl), gap_one rfl, .sign 125 rfl, .inr (.inl rfl), hr⟩
theorem toks_print {c : Cd} (hc : Good c) : (toks (printS c)).map er = codeT c ++ [eT] := by
  have h := toks_pieces (tail := [10]) (gap_one rfl) (l := codePc [] c) (by
    have := good_code hc gap_nil (.inl rfl) [] trivial (k := 3)
    rwa [List.append_nil] at this)
  rw [codePc_glue, codePc_snd, List.nil_append] at h
  exact h
/-- P7.6: parsing a printed text. -/
theorem parse_print {c : Cd} (hc : Good c) (h : (printS c).length ≤ 2000) : parseC (printS c) = (c, 0, 0) := parse_toks hc h (toks_print hc)
/-- Codes, one after the other, as pieces. -/
def allPc : Bs → List Cd → List Pc
  | _, [] => []
  | g, c :: r => codePc g c ++ allPc [10] r
def allTail (g : Bs) : List Cd → Bs
  | [] => g
  | c :: r => allTail [10] r
theorem allPc_glue : ∀ (cs : List Cd) (g : Bs), glue (allPc g cs) ++ allTail g cs = g ++ cs.flatMap printS
  | [], g => by show [] ++ g = g ++ []; simp
  | c :: cs, g => by
    rw [allPc, glue_app, List.append_assoc]
    show glue (codePc g c) ++ (glue (allPc [10] cs) ++ allTail [10] cs) = _
    rw [allPc_glue cs [10], ← List.append_assoc, codePc_glue, List.flatMap_cons, List.append_assoc]
theorem allPc_snd : ∀ (cs : List Cd) (g : Bs), (allPc g cs).map Prod.snd = cs.flatMap codeT
  | [], g => rfl
  | c :: cs, g => by rw [allPc, List.map_append, codePc_snd, allPc_snd cs, List.flatMap_cons]
theorem allPc_good : ∀ (cs : List Cd) (g : Bs), Gap g → (∀ c ∈ cs, Good c) → goodP 3 (allPc g cs)
  | [], g, _, _ => trivial
  | c :: cs, g, hg, hc => by
    rw [allPc]
    exact good_code (hc c (by simp)) hg (.inl rfl) _ (allPc_good cs [10] (gap_one rfl) fun x hx => hc x (by simp [hx]))
theorem allTail_gap : ∀ (cs : List Cd) (g : Bs), Gap g → Gap (allTail g cs)
  | [], g, h => h
  | c :: cs, g, _ => allTail_gap cs [10] (gap_one rfl)
theorem toks_all {cs : List Cd} (hc : ∀ c ∈ cs, Good c) : (toks (cs.flatMap printS)).map er = cs.flatMap codeT ++ [eT] := by
  have h := toks_pieces (allTail_gap cs [] gap_nil) (allPc_good cs [] gap_nil hc)
  rw [allPc_glue, allPc_snd, List.nil_append] at h
  exact h
/-- P7.7: ParseAll of printed texts, one after the other. -/
theorem parseAll_print {cs : List Cd} (hc : ∀ c ∈ cs, Good c) (h : (cs.flatMap printS).length ≤ 2000) (hl : cs.length ≤ 8) (hn : (cs.map Cd.name).Nodup) : parseAllC (cs.flatMap printS) = (cs, 0, 0) :=
  parseAll_toks hc h (toks_all hc) hl hn
/-- P7.7: other gaps. -/
theorem parse_gaps {c : Cd} (hc : Good c) {l : List Pc} {tail : Bs} (ht : Gap tail) (hl : goodP 3 l) (hs : l.map Prod.snd = codeT c) (h : (glue l ++ tail).length ≤ 2000) : parseC (glue l ++ tail) = (c, 0, 0) :=
  parse_toks hc h (by rw [toks_pieces ht hl, hs])
theorem gap_comment : Gap [32, 35, 32, 99, 111, 100, 101, 32, 125, 10] := fun r => by
  simp [skp, blank]
  omega

end Go.Proofs.YtcogkdnlpjfgdaaGreatDoor
