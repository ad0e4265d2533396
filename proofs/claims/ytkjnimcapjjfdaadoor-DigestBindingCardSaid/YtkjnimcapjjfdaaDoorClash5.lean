/-
  digest.Clash, walked.
  What two proofs that lead to one root say of each other: plain mathematics. The first difference from the end gives two inputs with one hash's beginning; no difference: the elements and the proofs are the same.
  The reference's Clash as a whole: it finds what digest.Clash finds.
-/
import Derived.Test.YtkjnimcapjjfdaaDoorClash4
import Derived.Test.YtkjnimcapjjfdaaDoorRClash
namespace Go.Proofs.YtkjnimcapjjfdaaDoor
open Go.RowKit
set_option linter.unusedVariables false

/-- What Clash finds. -/
def clashO (n i : Int) (a b : List UInt8) (ds es : List (List UInt8)) : Option (List UInt8 × List UInt8) :=
  if (fitB n i ds && (fitB n i es && decide (rootF n i ds a = rootF n i es b))) = true then lastD (insF n i ds a) (insF n i es b) (ds.length + 1) else none
theorem clash_any (a b : List UInt8) (ha : a.length = 16) (hb : b.length = 16) (n i : Int) (hn : n ≤ 9223372036854775807) (A A' : Option Addr) (c c' : Nat) (ds es : List (List UInt8)) (w : World) (hD : Ds w w.heap.size A ds.length ds) (hE : Ds w w.heap.size A' es.length es) (hp : ds.length < 1000000000) (hq : es.length ≤ 1000000000) (hT : Tab w 1) :
    Calls Tryd.prog 51 #[.int .i64 n, .int .i64 i, dv a, dv b, .slice A ds.length c, .slice A' es.length c', (.func (.func 35) #[] #[])] w fun e w' => ∃ vx vy, e = .returned (.tuple #[vx, vy, .bool (clashO n i a b ds es).isSome]) ∧
      w'.ownsRow 0 5 1 vx ((clashO n i a b ds es).getD ([], [])).1.length (((clashO n i a b ds es).getD ([], [])).1.map bv) ∧
      w'.ownsRow 0 5 1 vy ((clashO n i a b ds es).getD ([], [])).2.length (((clashO n i a b ds es).getD ([], [])).2.map bv) ∧ Below w.heap.size w w' := by
  cases h : (fitB n i ds && (fitB n i es && decide (rootF n i ds a = rootF n i es b))) with
  | false =>
    have ho : clashO n i a b ds es = none := by unfold clashO; rw [h]; rfl
    rw [ho]
    refine (clash_no a b ha hb n i hn A A' c c' ds es w hD hE (by omega) hq hT h).mono ?_
    rintro e w' ⟨rfl, hbl⟩
    exact ⟨_, _, rfl, World.ownsRow_nil _ _ _ _, World.ownsRow_nil _ _ _ _, hbl⟩
  | true =>
    have ho : clashO n i a b ds es = lastD (insF n i ds a) (insF n i es b) (ds.length + 1) := by unfold clashO; rw [h]; rfl
    rw [ho]
    simp only [Bool.and_eq_true, decide_eq_true_eq] at h
    obtain ⟨h1, h2, h3⟩ := h
    have e1 : (dirsN n.toNat i.toNat).length = ds.length := (of_decide_eq_true h1).2.2
    have e2 : (dirsN n.toNat i.toNat).length = es.length := (of_decide_eq_true h2).2.2
    refine clash_yes a b ha hb n i hn A A' c c' ds es w hD hE (by omega) hq hT h1 h2 h3 ds.length (by omega) ?_ ?_
    · unfold insF; rw [if_pos h1, insK_len]
    · unfold insF; rw [if_pos h2, insK_len]; omega
set_option maxHeartbeats 800000 in
set_option maxRecDepth 100000 in
theorem Clash_any (a b : List UInt8) (ha : a.length = 16) (hb : b.length = 16) (n i : Int) (hn : n ≤ 9223372036854775807) (A A' : Option Addr) (c c' : Nat) (ds es : List (List UInt8)) (w : World) (hD : Ds w w.heap.size A ds.length ds) (hE : Ds w w.heap.size A' es.length es) (hp : ds.length < 1000000000) (hq : es.length ≤ 1000000000) (hT : Tab w 1) :
    Calls Tryd.prog 26 #[.int .i64 n, .int .i64 i, dv a, dv b, .slice A ds.length c, .slice A' es.length c'] w fun e w' => ∃ vx vy, e = .returned (.tuple #[vx, vy, .bool (clashO n i a b ds es).isSome]) ∧
      w'.ownsRow 0 5 1 vx ((clashO n i a b ds es).getD ([], [])).1.length (((clashO n i a b ds es).getD ([], [])).1.map bv) ∧
      w'.ownsRow 0 5 1 vy ((clashO n i a b ds es).getD ([], [])).2.length (((clashO n i a b ds es).getD ([], [])).2.map bv) ∧ Below w.heap.size w w' := by
  have HC := hideIt (fun (W : World) (hW : Below w.heap.size w W) => clash_any a b ha hb n i hn A A' c c' ds es W ((hD.below hW (Nat.le_refl _)).wide hW.size) ((hE.below hW (Nat.le_refl _)).wide hW.size) hp hq (hT.keep hW))
  have hz1 : (w.alloc (.cells (a.map bv).toArray 30)).heap.size = w.heap.size + 1 := by simp
  have HB0 := hideIt ((below_new w (.cells (a.map bv).toArray 30)).alloc (by rw [hz1]; omega) (.cells (b.map bv).toArray 30))
  have HK0 := hideIt ((Blk.new w 30 (a.map bv)).alloc (.cells (b.map bv).toArray 30))
  have HK1 : Hid (Blk ((w.alloc (.cells (a.map bv).toArray 30)).alloc (.cells (b.map bv).toArray 30)) (w.heap.size + 1) 30 (b.map bv)) := hz1 ▸ Blk.new (w.alloc (.cells (a.map bv).toArray 30)) 30 (b.map bv)
  have HA := hideIt ha
  have HB := hideIt hb
  generalize clashO n i a b ds es = O at *
  clear ha hb hD hE hT hz1 hp hq
  go_enter Tryd.func26, Tryd.ntmps26
  go_wp2_with (first
    | ((with_reducible refine at_load ?_); refine wpList_get rfl 30 (.tmp 8) rfl w.heap.size (a.map bv) 30 (.array 16 5) rfl HK0.out (by kernel_rfl) rfl (isize16 _ HA.out) ?_)
    | ((with_reducible refine at_load ?_); refine wpList_get rfl 30 (.tmp 9) rfl (w.heap.size + 1) (b.map bv) 30 (.array 16 5) rfl HK1.out (by kernel_rfl) rfl (isize16 _ HB.out) ?_)
    | (go_at_call 51; refine (HC.out _ HB0.out).mono ?_; rintro e w2 ⟨vx, vy, rfl, hx, hy, hbl⟩; have HX := hideIt hx; have HY := hideIt hy; have HB2 := hideIt (HB0.out.trans (hbl.mono HB0.out.size)); clear hx hy hbl))
  go_ret3
  exact ⟨_, _, rfl, HX.out, HY.out, HB2.out⟩

theorem encB_inj (x y : List UInt8) (h : x.length = y.length) (s t : List UInt8) (e : encB x ++ s = encB y ++ t) : x = y ∧ s = t := by
  unfold encB at e
  rw [h] at e
  rw [List.append_assoc, List.append_assoc] at e
  have e2 := List.append_cancel_left e
  exact List.append_inj e2 h
theorem leafIn_inj (x y : List UInt8) (hx : x.length = 16) (hy : y.length = 16) (h : leafIn x = leafIn y) : x = y := by
  unfold leafIn msgB at h
  simp only [List.flatMap_cons, List.flatMap_nil, List.cons.injEq, true_and] at h
  exact (encB_inj x y (by omega) [] [] h).1
theorem nodeIn_inj (x y u v : List UInt8) (h1 : x.length = 16) (h2 : y.length = 16) (h3 : u.length = 16) (h4 : v.length = 16) (h : nodeIn x y = nodeIn u v) : x = u ∧ y = v := by
  unfold nodeIn msgB at h
  simp only [List.flatMap_cons, List.flatMap_nil, List.cons.injEq, true_and] at h
  obtain ⟨e1, e2⟩ := encB_inj x u (by omega) _ _ h
  exact ⟨e1, (encB_inj y v (by omega) _ _ e2).1⟩
theorem stepIn_inj (b : Bool) (d r e s : List UInt8) (h1 : d.length = 16) (h2 : r.length = 16) (h3 : e.length = 16) (h4 : s.length = 16) (h : stepIn b d r = stepIn b e s) : d = e ∧ r = s := by
  unfold stepIn at h
  cases b with
  | true => simp only [if_true] at h; exact nodeIn_inj d r e s h1 h2 h3 h4 h
  | false =>
    simp only [if_neg Bool.false_ne_true] at h
    obtain ⟨e1, e2⟩ := nodeIn_inj r d s e h2 h1 h4 h3 h
    exact ⟨e2, e1⟩

/-- The k-th input. -/
def inK (D : List Bool) (ds : List (List UInt8)) (leaf : List UInt8) : Nat → List UInt8
  | 0 => leafIn leaf
  | k + 1 => stepIn (D.getD k false) (ds.getD k []) (rootK D ds leaf k)
theorem cut_in (D : List Bool) (ds : List (List UInt8)) (leaf : List UInt8) (k : Nat) : cutD (inK D ds leaf k) = rootK D ds leaf k := by
  cases k <;> rfl
theorem ins_get (D : List Bool) (ds : List (List UInt8)) (leaf : List UInt8) : ∀ q k, k ≤ q → (insK D ds leaf q).getD k [] = inK D ds leaf k
  | 0, k, h => by
    obtain rfl : k = 0 := by omega
    rfl
  | q + 1, k, h => by
    rw [insK, List.getD_eq_getElem?_getD]
    by_cases hk : k ≤ q
    · rw [List.getElem?_append_left (by rw [insK_len]; omega), ← List.getD_eq_getElem?_getD]
      exact ins_get D ds leaf q k hk
    · obtain rfl : k = q + 1 := by omega
      rw [List.getElem?_append_right (by rw [insK_len]; omega), insK_len, Nat.sub_self]
      rfl

section
variable {D : List Bool} {ds es : List (List UInt8)} {a b : List UInt8} {q : Nat} (hd : ∀ k, k < q → (ds.getD k []).length = 16) (he : ∀ k, k < q → (es.getD k []).length = 16)
include hd he
/-- What is found. -/
theorem found_cut : ∀ p, p ≤ q → rootK D ds a p = rootK D es b p → ∀ x y, lastD (insK D ds a q) (insK D es b q) (p + 1) = some (x, y) → x ≠ y ∧ cutD x = cutD y := by
  intro p
  induction p with
  | zero =>
    intro hp hr x y h
    rw [lastD, ins_get _ _ _ _ _ hp, ins_get _ _ _ _ _ hp] at h
    split at h
    · cases h
    · rename_i hne
      simp only [Option.some.injEq, Prod.mk.injEq] at h
      obtain ⟨rfl, rfl⟩ := h
      exact ⟨hne, by rw [cut_in, cut_in]; exact hr⟩
  | succ p ih =>
    intro hp hr x y h
    rw [lastD, ins_get _ _ _ _ _ hp, ins_get _ _ _ _ _ hp] at h
    split at h
    · rename_i heq
      have h2 := stepIn_inj _ _ _ _ _ (hd p (by omega)) (rootK_len _ _ _ _) (he p (by omega)) (rootK_len _ _ _ _) heq
      exact ih (by omega) h2.2 x y h
    · rename_i hne
      simp only [Option.some.injEq, Prod.mk.injEq] at h
      obtain ⟨rfl, rfl⟩ := h
      exact ⟨hne, by rw [cut_in, cut_in]; exact hr⟩
/-- Nothing is found: all is the same. -/
theorem none_same (ha : a.length = 16) (hb : b.length = 16) : ∀ p, p ≤ q → lastD (insK D ds a q) (insK D es b q) (p + 1) = none → a = b ∧ ∀ k, k < p → ds.getD k [] = es.getD k [] := by
  intro p
  induction p with
  | zero =>
    intro hp h
    rw [lastD, ins_get _ _ _ _ _ hp, ins_get _ _ _ _ _ hp] at h
    split at h
    · rename_i heq
      exact ⟨leafIn_inj a b ha hb heq, fun k hk => by omega⟩
    · cases h
  | succ p ih =>
    intro hp h
    rw [lastD, ins_get _ _ _ _ _ hp, ins_get _ _ _ _ _ hp] at h
    split at h
    · rename_i heq
      have h2 := stepIn_inj _ _ _ _ _ (hd p (by omega)) (rootK_len _ _ _ _) (he p (by omega)) (rootK_len _ _ _ _) heq
      obtain ⟨h3, h4⟩ := ih (by omega) h
      refine ⟨h3, fun k hk => ?_⟩
      by_cases hkp : k = p
      · subst hkp; exact h2.1
      · exact h4 k (by omega)
    · cases h
end
theorem same_none (xs : List (List UInt8)) : ∀ p, lastD xs xs p = none
  | 0 => rfl
  | p + 1 => by rw [lastD, if_pos rfl]; exact same_none xs p
theorem list_ext (ds es : List (List UInt8)) (q : Nat) (h1 : ds.length = q) (h2 : es.length = q) (h : ∀ k, k < q → ds.getD k [] = es.getD k []) : ds = es := by
  apply List.ext_getElem (by omega)
  intro i hi hj
  have := h i (by omega)
  rw [List.getD_eq_getElem?_getD, List.getD_eq_getElem?_getD, List.getElem?_eq_getElem hi, List.getElem?_eq_getElem hj] at this
  exact this

theorem lastD_mem (xs ys : List (List UInt8)) : ∀ p, p ≤ xs.length → p ≤ ys.length → ∀ x y, lastD xs ys p = some (x, y) → x ∈ xs ∧ y ∈ ys
  | 0, _, _, x, y, h => by cases h
  | p + 1, h1, h2, x, y, h => by
    rw [lastD] at h
    split at h
    · exact lastD_mem xs ys p (by omega) (by omega) x y h
    · simp only [Option.some.injEq, Prod.mk.injEq] at h
      obtain ⟨rfl, rfl⟩ := h
      rw [List.getD_eq_getElem?_getD, List.getD_eq_getElem?_getD, List.getElem?_eq_getElem (by omega), List.getElem?_eq_getElem (by omega)]
      exact ⟨List.getElem_mem _, List.getElem_mem _⟩
theorem clash_len (n i : Int) (a b : List UInt8) (ha : a.length = 16) (hb : b.length = 16) (ds es : List (List UInt8)) (hd : ∀ d ∈ ds, d.length = 16) (he : ∀ d ∈ es, d.length = 16) (x y : List UInt8) (h : clashO n i a b ds es = some (x, y)) : x.length ≤ 100 ∧ y.length ≤ 100 := by
  unfold clashO at h
  split at h
  · rename_i hf
    simp only [Bool.and_eq_true, decide_eq_true_eq] at hf
    obtain ⟨h1, h2, h3⟩ := hf
    have e1 : (dirsN n.toNat i.toNat).length = ds.length := (of_decide_eq_true h1).2.2
    have e2 : (dirsN n.toNat i.toNat).length = es.length := (of_decide_eq_true h2).2.2
    unfold insF at h
    rw [if_pos h1, if_pos h2] at h
    obtain ⟨q1, q2⟩ := lastD_mem _ _ (ds.length + 1) (by rw [insK_len]; omega) (by rw [insK_len]; omega) x y h
    exact ⟨insK_le _ _ _ ha ds.length (fun k hk => by rw [List.getD_eq_getElem?_getD, List.getElem?_eq_getElem hk]; exact hd _ (List.getElem_mem _)) _ q1,
      insK_le _ _ _ hb es.length (fun k hk => by rw [List.getD_eq_getElem?_getD, List.getElem?_eq_getElem hk]; exact he _ (List.getElem_mem _)) _ q2⟩
  · cases h

/-- Both proofs lead to the first one's root. -/
def bothB (n i : Int) (a b : List UInt8) (ds es : List (List UInt8)) : Bool := verB (rootF n i ds a) n i a ds && verB (rootF n i ds a) n i b es
theorem ver_fit (root leaf : List UInt8) (n i : Int) (hn : n ≤ 9223372036854775807) (ds : List (List UInt8)) : verB root n i leaf ds = (fitB n i ds && decide (rootK (dirsN n.toNat i.toNat) ds leaf ds.length = root)) := by
  unfold verB fitB
  have hbs := dirs_of n.toNat i.toNat (by omega)
  have hsl : (sibs 0 n.toNat i.toNat).length = (dirsN n.toNat i.toNat).length := by rw [← hbs]; unfold befD; rw [List.length_map]
  rw [hbs, hsl, Bool.eq_iff_iff]
  simp only [decide_eq_true_eq, Bool.and_eq_true]
  exact ⟨fun h => ⟨⟨h.1, h.2.1, h.2.2.1⟩, h.2.2.2⟩, fun h => ⟨h.1.1, h.1.2.1, h.1.2.2, h.2⟩⟩
theorem both_is (n i : Int) (hn : n ≤ 9223372036854775807) (a b : List UInt8) (ds es : List (List UInt8)) : bothB n i a b ds es = (fitB n i ds && (fitB n i es && decide (rootF n i ds a = rootF n i es b))) := by
  unfold bothB
  rw [ver_fit _ _ _ _ hn, ver_fit _ _ _ _ hn]
  unfold rootF
  cases h1 : fitB n i ds <;> cases h2 : fitB n i es <;> simp [eq_comm]
theorem found_iff (n i : Int) (hn : n ≤ 9223372036854775807) (a b : List UInt8) (ha : a.length = 16) (hb : b.length = 16) (ds es : List (List UInt8)) (hd : ∀ d ∈ ds, d.length = 16) (he : ∀ d ∈ es, d.length = 16) :
    (clashO n i a b ds es).isSome = (bothB n i a b ds es && !(decide (a = b) && decide (ds = es))) ∧ ∀ x y, clashO n i a b ds es = some (x, y) → x ≠ y ∧ cutD x = cutD y := by
  rw [both_is n i hn]
  unfold clashO
  cases h : (fitB n i ds && (fitB n i es && decide (rootF n i ds a = rootF n i es b))) with
  | false => exact ⟨rfl, fun x y h => by cases h⟩
  | true =>
    simp only [if_true, Bool.true_and]
    simp only [Bool.and_eq_true, decide_eq_true_eq] at h
    obtain ⟨h1, h2, h3⟩ := h
    have e1 : (dirsN n.toNat i.toNat).length = ds.length := (of_decide_eq_true h1).2.2
    have e2 : (dirsN n.toNat i.toNat).length = es.length := (of_decide_eq_true h2).2.2
    unfold rootF at h3
    rw [if_pos h1, if_pos h2] at h3
    unfold insF
    rw [if_pos h1, if_pos h2]
    have hd' : ∀ k, k < ds.length → (ds.getD k []).length = 16 := fun k hk => by
      rw [List.getD_eq_getElem?_getD, List.getElem?_eq_getElem hk]; exact hd _ (List.getElem_mem _)
    have he' : ∀ k, k < ds.length → (es.getD k []).length = 16 := fun k hk => by
      rw [List.getD_eq_getElem?_getD, List.getElem?_eq_getElem (by omega)]; exact he _ (List.getElem_mem _)
    rw [show es.length = ds.length by omega] at h3 ⊢
    refine ⟨?_, fun x y h => found_cut hd' he' ds.length (Nat.le_refl _) h3 x y h⟩
    cases hl : lastD (insK (dirsN n.toNat i.toNat) ds a ds.length) (insK (dirsN n.toNat i.toNat) es b ds.length) (ds.length + 1) with
    | none =>
      obtain ⟨q1, q2⟩ := none_same hd' he' ha hb ds.length (Nat.le_refl _) hl
      rw [decide_eq_true q1, decide_eq_true (list_ext ds es ds.length rfl (by omega) q2)]
      rfl
    | some z =>
      have hne : ¬ (a = b ∧ ds = es) := by
        rintro ⟨rfl, rfl⟩
        rw [same_none] at hl
        cases hl
      by_cases hab : a = b
      · rw [decide_eq_true hab, decide_eq_false (fun h => hne ⟨hab, h⟩)]; rfl
      · rw [decide_eq_false hab]; rfl

theorem rclash_any (a b : List UInt8) (ha : a.length = 16) (hb : b.length = 16) (n i : Int) (hn : n ≤ 9223372036854775807) (A A' : Option Addr) (c c' : Nat) (ds es : List (List UInt8)) (w : World) (hD : Ds w w.heap.size A ds.length ds) (hE : Ds w w.heap.size A' es.length es) (hpc : ds.length ≤ c) (hpc' : es.length ≤ c') (hp : ds.length ≤ 1000000000) (hq : es.length ≤ 1000000000) (hT : Tab w 0) :
    Calls Tryd.prog 27 #[.int .i64 n, .int .i64 i, dv a, dv b, .slice A ds.length c, .slice A' es.length c'] w fun e w' => ∃ vx vy, e = .returned (.agg (colC vx vy (clashO n i a b ds es).isSome).toArray) ∧
      w'.ownsRow 0 5 1 vx ((clashO n i a b ds es).getD ([], [])).1.length (((clashO n i a b ds es).getD ([], [])).1.map bv) ∧
      w'.ownsRow 0 5 1 vy ((clashO n i a b ds es).getD ([], [])).2.length (((clashO n i a b ds es).getD ([], [])).2.map bv) ∧ Below w.heap.size w w' := by
  have hi1 := fun (W : World) (hW : Below w.heap.size w W) => inputs_all a ha A c ds n i W hn hpc hp ((hD.below hW (Nat.le_refl _)).wide hW.size) (hT.keep hW)
  have hi2 := fun (W : World) (hW : Below w.heap.size w W) => inputs_all b hb A' c' es n i W hn hpc' hq ((hE.below hW (Nat.le_refl _)).wide hW.size) (hT.keep hW)
  cases h1 : fitB n i ds with
  | false =>
    have ho : clashO n i a b ds es = none := by unfold clashO; rw [h1]; rfl
    rw [ho]
    rw [h1] at hi1
    exact rclash_no1 (fitB n i es) a b ha hb n i A A' ds.length es.length c c' w hT (List.replicate (es.length + 1) []) (insK (dirsN n.toNat i.toNat) es b es.length) es.length hq (by simp) (insK_len _ _ _ _)
      (fun W hW => (hi1 W hW).mono fun e w' ⟨v, q1, _, q3⟩ => ⟨v, q1, fun h => (by cases h), q3⟩) hi2
  | true =>
    rw [h1] at hi1
    cases h2 : fitB n i es with
    | false =>
      have ho : clashO n i a b ds es = none := by unfold clashO; rw [h1, h2]; rfl
      rw [ho]
      rw [h2] at hi2
      exact rclash_no2 a b ha hb n i A A' ds.length es.length c c' w hT (insK (dirsN n.toNat i.toNat) ds a ds.length) (List.replicate (ds.length + 1) []) ds.length hp (insK_len _ _ _ _) (by simp)
        hi1 (fun W hW => (hi2 W hW).mono fun e w' ⟨v, q1, _, q3⟩ => ⟨v, q1, fun h => (by cases h), q3⟩)
    | true =>
      rw [h2] at hi2
      have e1 : (dirsN n.toNat i.toNat).length = ds.length := (of_decide_eq_true h1).2.2
      have e2 : (dirsN n.toNat i.toNat).length = es.length := (of_decide_eq_true h2).2.2
      have e3 : es.length = ds.length := by omega
      have hd : ∀ k, k < ds.length → (ds.getD k []).length = 16 := fun k hk => by
        rw [List.getD_eq_getElem?_getD, List.getElem?_eq_getElem hk]; exact hD.2.1 _ (List.getElem_mem _)
      have he : ∀ k, k < es.length → (es.getD k []).length = 16 := fun k hk => by
        rw [List.getD_eq_getElem?_getD, List.getElem?_eq_getElem hk]; exact hE.2.1 _ (List.getElem_mem _)
      have hm1 : (insK (dirsN n.toNat i.toNat) ds a ds.length).getD ds.length [] = inK (dirsN n.toNat i.toNat) ds a ds.length := ins_get _ _ _ _ _ (Nat.le_refl _)
      have hm2 : (insK (dirsN n.toNat i.toNat) es b es.length).getD ds.length [] = inK (dirsN n.toNat i.toNat) es b ds.length := ins_get _ _ _ _ _ (by omega)
      have mem : ∀ (l : List (List UInt8)) (k : Nat) (hk : k < l.length), l.getD k [] ∈ l := fun l k hk => by
        rw [List.getD_eq_getElem?_getD, List.getElem?_eq_getElem hk]; exact List.getElem_mem _
      have l1 := insK_le (dirsN n.toNat i.toNat) ds a ha ds.length hd _ (mem _ ds.length (by rw [insK_len]; omega))
      have l2 := insK_le (dirsN n.toNat i.toNat) es b hb es.length he _ (mem _ ds.length (by rw [insK_len]; omega))
      rw [hm1] at l1
      rw [hm2] at l2
      have c1 : cutD (inK (dirsN n.toNat i.toNat) ds a ds.length) = rootF n i ds a := by rw [cut_in]; unfold rootF; rw [if_pos h1]
      have c2 : cutD (inK (dirsN n.toNat i.toNat) es b ds.length) = rootF n i es b := by rw [cut_in]; unfold rootF; rw [if_pos h2, e3]
      by_cases hrr : rootF n i ds a = rootF n i es b
      · have ho : clashO n i a b ds es = lastD (insK (dirsN n.toNat i.toNat) ds a ds.length) (insK (dirsN n.toNat i.toNat) es b es.length) (ds.length + 1) := by
          unfold clashO insF; rw [h1, h2, decide_eq_true hrr]; simp
        rw [ho]
        exact rclash_eq a b ha hb n i A A' ds.length es.length c c' w hT _ _ ds.length hp (insK_len _ _ _ _) (by rw [insK_len]; omega) _ _ _ _ hm1 hm2 c1 c2 l1 l2 hrr hi1 hi2
      · have ho : clashO n i a b ds es = none := by unfold clashO; rw [h1, h2, decide_eq_false hrr]; rfl
        rw [ho]
        exact rclash_ne a b ha hb n i A A' ds.length es.length c c' w hT _ _ ds.length hp (insK_len _ _ _ _) (by rw [insK_len]; omega) _ _ _ _ hm1 hm2 c1 c2 l1 l2 hrr hi1 hi2

theorem cv_own {W : World} {base c : Nat} {A : Option Addr} {l : List UInt8} (h : W.ownsRow base 5 1 (.slice A l.length c) l.length (l.map bv)) : (convert 22 9 (.slice A l.length c)).run Tryd.prog W = .ok (.string ⟨l.toArray⟩) W :=
  conv_bytes (c := c) Tryd.underlying22 Tryd.underlying5 Tryd.underlying9 (Sl.of_own h)
theorem cv_named {W : World} {base c : Nat} {A : Option Addr} {l : List UInt8} {s : ByteArray} (hs : s = ⟨l.toArray⟩) (h : W.ownsRow base 5 1 (.slice A l.length c) l.length (l.map bv)) : (convert 22 9 (.slice A l.length c)).run Tryd.prog W = .ok (.string s) W := by
  rw [hs]; exact cv_own h
/-- A load of a part of a block, behind a guard that let it by. -/
theorem wpList_mid_g {P : Program} {ops : Array Oper} {rest : List Oper} {o : Oper} {a : Act} {w : World} {Q : Exit → Act → World → Prop} (hw : Region.wanted o (yielded ops a.tmps) = true) (ty : TypeId) (x : Operand) (ho : o.op = .load ty x)
    (b off : Nat) (hx : a.eval x = .pointer (some ⟨b, off, none⟩)) (cs : List Value) (d : TypeDesc) (hc : w.rangeAt b off cs) (hu : P.underlying ty = some d) (hd : d.isRow = true) (hi : (P.info? ty).map (·.size) = some cs.length)
    (h : wpList P ops Q rest (a.put o.dst (.agg cs.toArray)) w) : wpList P ops Q (o :: rest) a w := by
  refine wpList_wanted hw ?_
  unfold Oper.wp execOp
  simp only [ho, hx, Sem.run_bind, run_loadAt_mid w b off ty cs d hc hu hd hi, Result.andThen_ok, Sem.run_pure]
  exact h

end Go.Proofs.YtkjnimcapjjfdaaDoor
