/-
  What is built of a code as it is written; the printed text's tokens; parsing what was printed. No program stands behind this text.
-/
import Derived.Test.YtcogkdnlpjfgdaaGreatDoorLngC
namespace Go.Proofs.YtcogkdnlpjfgdaaGreatDoor
set_option linter.unusedVariables false
set_option linter.unusedSimpArgs false

theorem rowOk_is {f d : Int} {v : List Int} (h : rowOk f d v = true) : (v.length : Int) = d ∧ (∀ x ∈ v, 0 ≤ x ∧ x ≤ topF f) ∧ v.any (fun x => decide (x ≠ 0)) = true := by
  unfold rowOk at h
  rw [Bool.and_eq_true, Bool.and_eq_true] at h
  refine ⟨of_decide_eq_true h.1.1, fun x hx => ?_, h.2⟩
  have := List.all_eq_true.1 h.1.2 x hx
  exact of_decide_eq_true this
theorem parityB_ok {x : Ln} {v : List Int} {f d : Int} (h : rowOk f d v = true) (ha : x.a.map Tk.n = v.map Int.toNat) : parityB x d (topF f) = (v, 0, 0) := by
  obtain ⟨h1, h2, h3⟩ := rowOk_is h
  have hl : x.a.length = v.length := by
    have := congrArg List.length ha
    simpa using this
  have hmap : x.a.map (fun t => (t.n : Int)) = v := by
    have e1 : x.a.map (fun t => (t.n : Int)) = (x.a.map Tk.n).map (fun n : Nat => (n : Int)) := by rw [List.map_map]; rfl
    rw [e1, ha, List.map_map]
    conv => rhs; rw [← List.map_id v]
    refine List.map_congr_left fun y hy => ?_
    have := (h2 y hy).1
    show ((y.toNat : Nat) : Int) = y
    omega
  have hmem : ∀ t ∈ x.a, (t.n : Int) ∈ v := fun t ht => by rw [← hmap]; exact List.mem_map.2 ⟨t, ht, rfl⟩
  unfold parityB
  rw [if_neg (by rw [hl]; exact fun q => q h1)]
  have hf : x.a.find? (fun t => decide (topF f < (t.n : Int))) = none := by
    rw [List.find?_eq_none]
    intro t ht q
    have := (h2 _ (hmem t ht)).2
    have q2 := of_decide_eq_true q
    omega
  rw [hf]
  dsimp only
  rw [if_neg, hmap]
  intro q
  rw [List.all_eq_true] at q
  rw [List.any_eq_true] at h3
  obtain ⟨y, hy, hne⟩ := h3
  rw [← hmap, List.mem_map] at hy
  obtain ⟨t, ht, rfl⟩ := hy
  have := of_decide_eq_true (q t ht)
  exact (of_decide_eq_true hne) (by show (t.n : Int) = 0; omega)

theorem idxs_lt : ∀ (v : List Int) (j : Nat), ∀ k ∈ idxs j v, j ≤ k ∧ k < j + v.length
  | [], j, k, h => by simp [idxs] at h
  | x :: v, j, k, h => by
    unfold idxs at h
    have ih := idxs_lt v (j + 1)
    by_cases hx : x = 0
    · rw [if_pos hx] at h
      have := ih k h
      simp only [List.length_cons]; omega
    · rw [if_neg hx, List.mem_cons] at h
      simp only [List.length_cons]
      rcases h with h | h
      · omega
      · have := ih k h
        omega
theorem locI_ok (d : Int) : ∀ (v : List Int) (j q : Nat) (a : List Tk), a.map Tk.n = idxs j v → ((j + v.length : Nat) : Int) ≤ d → q ≤ j → locI d q a = none
  | [], j, q, a, h, _, _ => by
    rw [idxs, List.map_eq_nil_iff] at h
    rw [h]; rfl
  | x :: v, j, q, a, h, hd, hq => by
    unfold idxs at h
    simp only [List.length_cons] at hd
    by_cases hx : x = 0
    · rw [if_pos hx] at h
      exact locI_ok d v (j + 1) q a h (by omega) (by omega)
    · rw [if_neg hx] at h
      cases a with
      | nil => simp at h
      | cons t a =>
        rw [List.map_cons] at h
        injection h with h1 h2
        rw [locI, if_neg (by rw [h1]; omega), h1]
        exact locI_ok d v (j + 1) (j + 1) a h2 (by omega) (by omega)
theorem fill_len : ∀ (a b : List Tk) (o : List Int), (fillL a b o).length = o.length
  | [], _, o => by cases ‹List Tk› <;> rfl
  | x :: a, [], o => rfl
  | x :: a, y :: b, o => by rw [fillL, fill_len a b]; simp
/-- Filling from place j on. -/
theorem fill_ok : ∀ (v : List Int) (pre : List Int) (a b : List Tk), a.map Tk.n = idxs pre.length v → b.map Tk.n = vals v → (∀ x ∈ v, 0 ≤ x) →
    fillL a b (pre ++ List.replicate v.length 0) = pre ++ v
  | [], pre, a, b, ha, hb, _ => by
    rw [idxs, List.map_eq_nil_iff] at ha
    rw [ha]
    show pre ++ [] = pre ++ []
    rfl
  | x :: v, pre, a, b, ha, hb, hx => by
    unfold idxs at ha
    unfold vals at hb
    have ih := fill_ok v (pre ++ [x])
    rw [List.length_append, List.length_singleton] at ih
    have hv : ∀ y ∈ v, 0 ≤ y := fun y hy => hx y (by simp [hy])
    by_cases h0 : x = 0
    · rw [if_pos h0] at ha hb
      have := ih a b ha hb hv
      rw [List.append_assoc, List.append_assoc] at this
      rw [List.length_cons, List.replicate_succ]
      rw [h0] at this ⊢
      exact this
    · rw [if_neg h0] at ha hb
      cases a with
      | nil => simp at ha
      | cons s a =>
        cases b with
        | nil => simp at hb
        | cons t b =>
          rw [List.map_cons] at ha hb
          injection ha with ha1 ha2
          injection hb with hb1 hb2
          have h1 := ih a b ha2 hb2 hv
          rw [List.append_assoc, List.append_assoc] at h1
          rw [fillL, ha1, hb1, List.length_cons, List.replicate_succ, List.set_append_right _ _ (Nat.le_refl _), Nat.sub_self, List.set_cons_zero]
          have : ((x.toNat : Nat) : Int) = x := by have := hx x (by simp); omega
          rw [this]
          exact h1
theorem vals_mem : ∀ (v : List Int), ∀ k ∈ vals v, ∃ x ∈ v, x ≠ 0 ∧ k = x.toNat
  | [], k, h => by simp [vals] at h
  | x :: v, k, h => by
    unfold vals at h
    by_cases hx : x = 0
    · rw [if_pos hx] at h
      obtain ⟨y, h1, h2⟩ := vals_mem v k h
      exact ⟨y, by simp [h1], h2⟩
    · rw [if_neg hx, List.mem_cons] at h
      rcases h with h | h
      · exact ⟨x, by simp, hx, h⟩
      · obtain ⟨y, h1, h2⟩ := vals_mem v k h
        exact ⟨y, by simp [h1], h2⟩
theorem idxs_vals : ∀ (v : List Int) (j : Nat), (idxs j v).length = (vals v).length
  | [], _ => rfl
  | x :: v, j => by
    unfold idxs vals
    have := idxs_vals v (j + 1)
    split <;> simp [this]
theorem localB_ok {x : Ln} {v : List Int} {f d : Int} (h : rowOk f d v = true) (ha : x.a.map Tk.n = idxs 0 v) (hb : x.b.map Tk.n = vals v) : localB x d (topF f) = (v, 0, 0) := by
  obtain ⟨h1, h2, h3⟩ := rowOk_is h
  unfold localB
  rw [locI_ok d v 0 0 x.a ha (by omega) (by omega)]
  dsimp only
  have e1 := congrArg List.length ha
  have e2 := congrArg List.length hb
  rw [List.length_map] at e1 e2
  rw [if_neg (by rw [e1, e2, idxs_vals]; exact fun q => q rfl)]
  have hf : x.b.find? (fun t => decide (t.n = 0 ∨ topF f < (t.n : Int))) = none := by
    rw [List.find?_eq_none]
    intro t ht q
    have hm : t.n ∈ vals v := by rw [← hb]; exact List.mem_map.2 ⟨t, ht, rfl⟩
    obtain ⟨y, hy, hne, e⟩ := vals_mem v _ hm
    have := h2 y hy
    have q2 := of_decide_eq_true q
    omega
  rw [hf]
  dsimp only
  have := fill_ok v [] x.a x.b ha hb (fun y hy => (h2 y hy).1)
  rw [List.nil_append, List.nil_append] at this
  rw [← h1, Int.toNat_natCast, this]
theorem rowB_ok {x : Ln} {v : List Int} {f d : Int} (h : rowOk f d v = true) (hx : RowLn v x) : rowB x d (topF f) = (v, 0, 0) := by
  unfold RowLn at hx
  unfold rowB
  by_cases hz : v.any (fun x => decide (x = 0)) = true
  · rw [if_pos hz] at hx
    rw [if_pos hx.1]; exact localB_ok h hx.2.1 hx.2.2
  · rw [if_neg hz] at hx
    rw [if_neg (by rw [hx.1]; decide)]; exact parityB_ok h hx.2
theorem rowLn_key {v : List Int} {x : Ln} (hx : RowLn v x) : x.key.tx = kLocal ∨ x.key.tx = kParity := by
  unfold RowLn at hx
  split at hx
  · exact .inl hx.1
  · exact .inr hx.1
theorem build_rows (rest : List Ln) : ∀ (vs : List (List Int)) (xs : List Ln) (c : Cd), All2 RowLn vs xs → (∀ v ∈ vs, rowOk c.field c.data v = true) → c.data + c.par.length + vs.length ≤ 32 →
    buildL (xs ++ rest) c = buildL rest { c with par := c.par ++ vs }
  | [], [], c, _, _, _ => by rw [List.nil_append, List.append_nil]
  | v :: vs, x :: xs, c, h, hv, hw => by
    simp only [List.length_cons] at hw
    have hk := rowLn_key h.1
    have hr := rowB_ok (hv v (by simp)) h.1
    have ih := build_rows rest vs xs { c with par := c.par ++ [v] } h.2 (fun u hu => hv u (by simp [hu])) (by show c.data + ((c.par ++ [v]).length : Nat) + _ ≤ 32; rw [List.length_append, List.length_singleton]; omega)
    have k1 : x.key.tx ≠ kField := by rcases hk with q | q <;> rw [q] <;> decide
    have k2 : x.key.tx ≠ kData := by rcases hk with q | q <;> rw [q] <;> decide
    have k3 : x.key.tx ≠ kDomain := by rcases hk with q | q <;> rw [q] <;> decide
    rw [List.cons_append, buildL, if_neg k1, if_neg k2, if_neg k3, if_neg (by omega), hr, if_neg (fun q => q rfl), ih]
    dsimp only
    rw [List.append_assoc]; rfl
  | [], _ :: _, _, h, _, _ => by cases h
  | _ :: _, [], _, h, _, _ => by cases h
theorem build_ok {c : Cd} {s : Sc} (hc : Good c) (hs : SrcOf c s) : buildS s = (c, 0, 0) := by
  obtain ⟨h1, lf, ld, rs, lm, h2, ⟨f1, ft, f2, f3⟩, ⟨d1, dt, d2, d3⟩, h3, m1, mt, m2, m3⟩ := hs
  have g1 := hc.field
  have g2 := hc.d1
  have g3 := hc.d2
  have g4 := hc.width
  have g5 := hc.dom1
  have g6 := hc.dom2
  have g7 := hc.len
  have ef : ((c.field.toNat : Nat) : Int) = c.field := by omega
  have ed : ((c.data.toNat : Nat) : Int) = c.data := by omega
  have em : ((c.dom.toNat : Nat) : Int) = c.dom := by omega
  have hf : hd lf.a = ft := by rw [f2]; rfl
  have hd' : hd ld.a = dt := by rw [d2]; rfl
  have hm : hd lm.a = mt := by rw [m2]; rfl
  have hb := build_rows [lm] c.par rs ⟨s.name.tx, c.field, c.data, [], 0⟩ h3 hc.rows (by show c.data + (0 : Nat) + _ ≤ 32; omega)
  unfold buildS
  rw [h1, if_neg (by omega), h2, buildL, if_pos f1, hf, f3, if_neg (by omega), buildL, if_neg (by rw [d1]; decide), if_pos d1, hd', d3, if_neg (by omega)]
  dsimp only
  rw [ef, ed, ← h1, hb]
  dsimp only
  rw [List.nil_append, buildL, if_neg (by rw [m1]; decide), if_neg (by rw [m1]; decide), if_pos m1, hm, m3, if_neg, buildL]
  · dsimp only
    rw [em, if_neg (by omega), h1]
  · dsimp only
    omega

theorem parse_toks {c : Cd} (hc : Good c) {t : Bs} (ht : t.length ≤ 2000) (h : (toks t).map er = codeT c ++ [eT]) : parseC t = (c, 0, 0) := by
  have h0 : ((toks t).map er).drop 0 = codeT c ++ [eT] := h
  obtain ⟨s, j, h1, h2, h3⟩ := codeP_at hc h0
  unfold parseC
  rw [if_neg (by omega), h1]
  dsimp only
  rw [show kindP (toks t) 4 ⟨j, -1⟩ = ⟨j + 1, -1⟩ from kindP_at h3 rfl, if_neg (by show ¬ (0 : Int) ≤ -1; omega), build_ok hc h2]
  rfl

theorem codeT_head (c : Cd) : ∃ r, codeT c = wT kCode :: r := ⟨_, rfl⟩
theorem allG_at (l : List Tk) : ∀ (cs : List Cd) (f i : Nat) (out : List Sc), (∀ c ∈ cs, Good c) → (l.map er).drop i = cs.flatMap codeT ++ [eT] → cs.length < f →
    ∃ ss j, allG l f ⟨i, -1⟩ out = (out ++ ss, ⟨j, -1⟩) ∧ All2 SrcOf cs ss
  | [], f + 1, i, out, _, h, _ => by
    have h' : (l.map er).drop i = eT :: [] := h
    refine ⟨[], i, ?_, trivial⟩
    rw [allG, if_neg (fun q => q.2 (by rw [cur_kd h']; rfl)), List.append_nil]
  | c :: cs, f + 1, i, out, hc, h, hf => by
    have h' : (l.map er).drop i = codeT c ++ (cs.flatMap codeT ++ [eT]) := by rw [h, List.flatMap_cons, List.append_assoc]
    obtain ⟨s, j, h1, h2, h3⟩ := codeP_at (hc c (by simp)) h'
    obtain ⟨ss, j2, h4, h5⟩ := allG_at l cs f j (out ++ [s]) (fun x hx => hc x (by simp [hx])) h3 (by simp only [List.length_cons] at hf; omega)
    refine ⟨s :: ss, j2, ?_, h2, h5⟩
    obtain ⟨r, hr⟩ := codeT_head c
    have h'' : (l.map er).drop i = wT kCode :: (r ++ (cs.flatMap codeT ++ [eT])) := by rw [h', hr]; rfl
    rw [allG, if_pos ⟨by show (-1 : Int) < 0; omega, by rw [cur_kd h'']; decide⟩, h1]
    dsimp only
    rw [h4, List.append_assoc]; rfl
theorem allB_ok : ∀ (cs : List Cd) (ss : List Sc) (done : List Bs) (out : List Cd), All2 SrcOf cs ss → (∀ c ∈ cs, Good c) → done.length + cs.length ≤ 8 →
    (cs.map Cd.name).Nodup → (∀ c ∈ cs, c.name ∉ done) → allB done ss out = (out ++ cs, 0, 0)
  | [], [], done, out, _, _, _, _, _ => by rw [allB, List.append_nil]
  | c :: cs, s :: ss, done, out, h, hc, hl, hn, hd => by
    simp only [List.length_cons] at hl
    rw [List.map_cons, List.nodup_cons] at hn
    have hnm := h.1.1
    rw [allB, if_neg (by omega), if_neg, build_ok (hc c (by simp)) h.1, if_neg (fun q => q rfl)]
    · rw [allB_ok cs ss (done ++ [s.name.tx]) (out ++ [c]) h.2 (fun x hx => hc x (by simp [hx])) (by rw [List.length_append, List.length_singleton]; omega) hn.2 ?_, List.append_assoc]
      · rfl
      · intro x hx q
        rw [List.mem_append, List.mem_singleton, hnm] at q
        rcases q with q | q
        · exact hd x (by simp [hx]) q
        · exact hn.1 (List.mem_map.2 ⟨x, hx, q⟩)
    · rw [List.any_eq_true]
      rintro ⟨n, hn1, hn2⟩
      have := of_decide_eq_true hn2
      exact hd c (by simp) (by rw [← hnm, ← this]; exact hn1)
  | [], _ :: _, _, _, h, _, _, _, _ => by cases h
  | _ :: _, [], _, _, h, _, _, _, _ => by cases h
theorem parseAll_toks {cs : List Cd} (hc : ∀ c ∈ cs, Good c) {t : Bs} (ht : t.length ≤ 2000) (h : (toks t).map er = cs.flatMap codeT ++ [eT]) (hl : cs.length ≤ 8) (hn : (cs.map Cd.name).Nodup) :
    parseAllC t = (cs, 0, 0) := by
  have h0 : ((toks t).map er).drop 0 = cs.flatMap codeT ++ [eT] := h
  have hlen := drop_le h0
  have hpos : cs.length ≤ (cs.flatMap codeT).length := by
    clear h h0 hlen hl hn hc
    induction cs with
    | nil => simp
    | cons c cs ih =>
      obtain ⟨r, hr⟩ := codeT_head c
      rw [List.flatMap_cons, List.length_append, hr]
      simp only [List.length_cons]; omega
  rw [List.length_append] at hlen
  obtain ⟨ss, j, h1, h2⟩ := allG_at (toks t) cs ((toks t).length + 1) 0 [] hc h0 (by omega)
  unfold parseAllC
  rw [if_neg (by omega), h1]
  dsimp only
  rw [if_neg (by show ¬ (0 : Int) ≤ -1; omega), List.nil_append, allB_ok cs ss [] [] h2 hc (by simpa using hl) hn (by simp)]
  rfl

end Go.Proofs.YtcogkdnlpjfgdaaGreatDoor
