/-
  Rows of a call's own as a matrix in memory: from rows that were appended one after the other; one cell set, two rows swapped.
  Rows under construction: N rows of numbers, one of them more; a system in its box.
-/
import Derived.Test.YtpjgmekpnlpjaaaDoorEraO
namespace Go.Proofs.YtpjgmekpnlpjaaaDoor
open Go.RowKit
set_option linter.unusedVariables false
set_option linter.unusedSimpArgs false

theorem EM.setc {w : World} {B g R n : Nat} {D : RD} {M : Mx} (h : EM w B g R n D M) {i j : Nat} (y : Nat) (hi : i < R) (hj : j < n) :
    EM (w.setCell ⟨D.b i, D.o i + j, none⟩ (.int .i64 (y : Int))) B g R n D (upd2 M i j y) := by
  have hs : Sel (fun k q => k = D.b i ∧ D.o i ≤ q ∧ q < D.o i + n) w (w.setCell ⟨D.b i, D.o i + j, none⟩ (.int .i64 (y : Int))) :=
    (Sel.refl (fun k q => k = D.b i ∧ D.o i ≤ q ∧ q < D.o i + n) w).setCell (S := fun k q => k = D.b i ∧ D.o i ≤ q ∧ q < D.o i + n) ⟨rfl, by omega, by omega⟩ _
  have hr := h.row i hi
  refine (h.added hi (f := fun c => if c = j then y else M i c) ⟨hr.adr, fun h0 => Nat.lt_of_lt_of_le (hr.lt h0) hs.size, fun c hc => ?_⟩ hs).congr fun r c hr hc => ?_
  · show _ = some (Value.int .i64 ((if c = j then y else M i c : Nat) : Int))
    by_cases e : c = j
    · subst e
      rw [if_pos rfl]
      exact World.cell?_setCell_same' _ _ _ (by rw [hr.cell c hc]; rfl)
    · rw [if_neg e]
      exact (World.cell?_setCell_other _ _ _ _ (by intro hh; injection hh with _ hh; omega)).trans (hr.cell c hc)
  · show (if r = i then (if c = j then y else M i c) else M r c) = if r = i ∧ c = j then y else M r c
    by_cases e : r = i
    · subst e
      rw [if_pos rfl]
      by_cases e2 : c = j
      · rw [if_pos e2, if_pos ⟨rfl, e2⟩]
      · rw [if_neg e2, if_neg (fun q => e2 q.2)]
    · rw [if_neg e, if_neg (fun q => e q.1)]
/-- What lies below is as it was when a matrix' cell or header is set. -/
theorem EM.low1 {w w0 : World} {B g R n : Nat} {D : RD} {M : Mx} (h : EM w B g R n D M) {i o : Nat} (hi : i < R) (h0 : 0 < n) (hb : Below B w0 w) (u : Value) : Below B w0 (w.setCell ⟨D.b i, o, none⟩ u) :=
  hb.setCell (p := ⟨D.b i, o, none⟩) (h.low h0 i hi).1 u
theorem EM.lowg {w w0 : World} {B g R n : Nat} {D : RD} {M : Mx} (h : EM w B g R n D M) {o : Nat} (hb : Below B w0 w) (u : Value) : Below B w0 (w.setCell ⟨g, o, none⟩ u) :=
  hb.setCell (p := ⟨g, o, none⟩) h.gB u
/-- Two slices of the header swapped, one after the other. -/
theorem EM.swap2 {w : World} {B g R n : Nat} {D : RD} {M : Mx} (h : EM w B g R n D M) {i k : Nat} (hi : i < R) (hk : k < R) (w1 : World) (hw1 : Below w.heap.size (w.setCell ⟨g, k, none⟩ (.slice (D.ad i) n (D.c i))) w1) :
    EM (w1.setCell ⟨g, i, none⟩ (.slice (D.ad k) n (D.c k))) B g R n (D.swap i k) (swp M i k) := by
  have s1 : Sel (fun b _ => b = g) w (w.setCell ⟨g, k, none⟩ (.slice (D.ad i) n (D.c i))) := (Sel.refl (fun b _ => b = g) w).setCell (S := fun b _ => b = g) rfl _
  have s2 : Sel (fun b _ => b = g) w w1 := s1.later hw1
  have s3 : Sel (fun b _ => b = g) w (w1.setCell ⟨g, i, none⟩ (.slice (D.ad k) n (D.c k))) := s2.setCell (S := fun b _ => b = g) rfl _
  have hc1 : ∀ x, x < R → w1.cell? ⟨g, x, none⟩ = some (if x = k then Value.slice (D.ad i) n (D.c i) else Value.slice (D.ad x) n (D.c x)) := fun x hx => by
    rw [hw1.cell (p := ⟨g, x, none⟩) h.glt]
    by_cases e : x = k
    · subst e
      rw [if_pos rfl]
      exact World.cell?_setCell_same' _ _ _ (by rw [h.hdr x hx]; rfl)
    · rw [if_neg e]
      exact (World.cell?_setCell_other _ _ _ _ (by intro hh; injection hh with _ hh; omega)).trans (h.hdr x hx)
  refine h.swapped hi hk s3 fun x hx => ?_
  show _ = some (Value.slice (D.ad (if x = i then k else if x = k then i else x)) n (D.c (if x = i then k else if x = k then i else x)))
  by_cases e : x = i
  · subst e
    rw [if_pos rfl]
    exact World.cell?_setCell_same' _ _ _ (by rw [hc1 x hx]; rfl)
  · rw [if_neg e, World.cell?_setCell_other _ _ _ _ (by intro hh; injection hh with _ hh; omega), hc1 x hx]
    by_cases e2 : x = k
    · rw [if_pos e2, if_pos e2]
    · rw [if_neg e2, if_neg e2]

/-- An own row that is not empty: its block. -/
theorem own_blk2 {w : World} {B n : Nat} {e : TypeId} {v : Value} {xs : List Value} (h : w.ownsRow B e 1 v n xs) (h0 : 0 < n) : ∃ g cap cs, v = .slice (some ⟨g, 0, none⟩) n cap ∧ n ≤ cap ∧ cap ≤ maxLen ∧ B ≤ g ∧ Blk w g e cs ∧ cs.take n = xs := by
  have hl := h.1
  rw [Nat.mul_one] at hl
  rcases h.2 with ⟨_, h2⟩ | ⟨k, cap, cur, hv, hb, hg, h1, h2, h3, h4⟩
  · subst h2; simp at hl; omega
  · refine ⟨k, cap, cur.toList, hv, h1, h2, hb, hg, ?_⟩
    rw [Nat.mul_one] at h4
    exact h4
theorem take_at {xs cs : List Value} {n j : Nat} {u : Value} (h : cs.take n = xs) (hj : xs[j]? = some u) : cs[j]? = some u := by
  subst h
  rw [List.getElem?_take] at hj
  split at hj
  · exact hj
  · cases hj
/-- Own rows under an own header. -/
theorem EM.of_rows {w : World} {B R n : Nat} {hd : Value} {vs : Nat → Value} {M : Mx} (hR : 0 < R) (hn : 0 < n) (hown : w.ownsRow B 29 1 hd R ((List.range R).map vs))
    (hrn : RN R (fun _ => 3) w B vs (fun _ => n) (fun i => (nl n (M i)).map iv)) : ∃ g cap D, hd = .slice (some ⟨g, 0, none⟩) R cap ∧ EM w B g R n D M := by
  obtain ⟨g, cap, cs, hv, hc1, hc2, hg, hb, ht⟩ := own_blk2 hown hR
  have hx : ∃ gs cs2 : Nat → Nat, ∀ i, i < R → vs i = .slice (some ⟨gs i, 0, none⟩) n (cs2 i) ∧ n ≤ cs2 i ∧ cs2 i ≤ maxLen ∧ B ≤ gs i ∧ ∃ l, Blk w (gs i) 3 l ∧ l.take n = (nl n (M i)).map iv := by
    have h1 : ∀ i : Nat, ∃ p : Nat × Nat, i < R → vs i = .slice (some ⟨p.1, 0, none⟩) n p.2 ∧ n ≤ p.2 ∧ p.2 ≤ maxLen ∧ B ≤ p.1 ∧ ∃ l, Blk w p.1 3 l ∧ l.take n = (nl n (M i)).map iv := fun i => by
      by_cases hi : i < R
      · obtain ⟨g, cap, l, h1, h2, h3, h4, h5, h6⟩ := own_blk2 (hrn.own i hi) hn
        exact ⟨(g, cap), fun _ => ⟨h1, h2, h3, h4, l, h5, h6⟩⟩
      · exact ⟨(0, 0), fun h => absurd h hi⟩
    exact ⟨fun i => (h1 i).choose.1, fun i => (h1 i).choose.2, fun i hi => (h1 i).choose_spec hi⟩
  obtain ⟨gs, cs2, hrow⟩ := hx
  refine ⟨g, cap, ⟨fun i => some ⟨gs i, 0, none⟩, gs, fun _ => 0, cs2⟩, hv, hb.lt, hg, fun i hi => ?_, fun i hi => hb.free i, fun i hi => ⟨(hrow i hi).2.1, (hrow i hi).2.2.1⟩, fun i hi => ?_, fun _ i hi => ⟨(hrow i hi).2.2.2.1, fun e => ?_⟩, fun i hi j hj => ?_, fun i k hi hk hne j l hj hl e => ?_⟩
  · rw [hb.cell, take_at ht (u := vs i) (by rw [List.getElem?_map, List.getElem?_range hi]; rfl), (hrow i hi).1]
  · obtain ⟨l, hl, htk⟩ := (hrow i hi).2.2.2.2
    exact ⟨fun _ => rfl, fun _ => hl.lt, fun j hj => by rw [Nat.zero_add, hl.cell, take_at htk (iv_at hj)]⟩
  · obtain ⟨l, hl, htk⟩ := (hrow i hi).2.2.2.2
    have e : gs i = g := e
    rw [e] at hl
    unfold Blk at hl hb
    rw [hl] at hb
    injection hb with hb
    injection hb with _ hb _
    exact absurd hb (by decide)
  · obtain ⟨l, hl, htk⟩ := (hrow i hi).2.2.2.2
    exact hl.free _
  · refine hrn.apart i k hi hk hne (gs i) (by rw [(hrow i hi).1]; rfl) ?_
    rw [(hrow k hk).1, show gs i = gs k from e.1]
    rfl
/-- A row while another one is added. -/
def mixK (P Q : Mx) (x k : Nat) : Mx := fun r q => if r = x ∧ q < k then Q r q else P r q
theorem mixK_zero (P Q : Mx) (x r q : Nat) : mixK P Q x 0 r q = P r q := by unfold mixK; rw [if_neg (by omega)]
theorem mixK_at (P Q : Mx) (x k r : Nat) : mixK P Q x k r k = P r k := by unfold mixK; rw [if_neg (by omega)]
theorem mixK_next (P Q : Mx) (x k y : Nat) (hy : y = Q x k) : upd2 (mixK P Q x k) x k y = mixK P Q x (k + 1) := by
  funext r q
  unfold upd2 mixK
  subst hy
  by_cases e : r = x ∧ q = k
  · rw [if_pos e, if_pos (by omega), e.1, e.2]
  · rw [if_neg e]
    by_cases e2 : r = x ∧ q < k
    · rw [if_pos e2, if_pos (by omega)]
    · rw [if_neg e2, if_neg (by omega)]
theorem half_same {m : Nat} {N : Mx} {top c x : Nat} {r q : Nat} (hr : r ≠ x) : half m N top c x r q = half m N top c (x + 1) r q := by
  unfold half
  by_cases e : r = top
  · rw [if_pos e, if_pos e]
  · rw [if_neg e, if_neg e]
    by_cases e2 : r < x
    · rw [if_pos e2, if_pos (by omega)]
    · rw [if_neg e2, if_neg (by omega)]
theorem mixK_all (m : Nat) (N : Mx) (top c x C r q : Nat) (hq : q < C) : mixK (half m N top c x) (half m N top c (x + 1)) x C r q = half m N top c (x + 1) r q := by
  unfold mixK
  by_cases e : r = x
  · rw [if_pos ⟨e, hq⟩]
  · rw [if_neg (fun h => e h.1), half_same e]
theorem half_skip0 (m : Nat) (N : Mx) (top c x : Nat) (h : N x c = 0) : half m N top c x = half m N top c (x + 1) := by
  funext r q
  by_cases e : r = x
  · subst e
    unfold half
    by_cases e1 : r = top
    · rw [if_pos e1, if_pos e1]
    · rw [if_neg e1, if_neg e1, if_neg (by omega), if_pos (by omega), h, mul_zeroR, Nat.xor_zero]
  · exact half_same e
theorem half_top (m : Nat) (N : Mx) (top c x k : Nat) : half m N top c x top k = mul m (N top k) (inv m (N top c)) := by
  unfold half; rw [if_pos rfl]
theorem half_new {m : Nat} (hm : Fm m) {N : Mx} (hN : Vm m N) {top c x : Nat} (h : x ≠ top) (k : Nat) : half m N top c x x k ^^^ mul m (N x c) (half m N top c x top k) = half m N top c (x + 1) x k := by
  rw [half_top]
  unfold half
  rw [if_neg h, if_neg (by omega), if_neg h, if_pos (by omega), mul_comm hm (hN x c) (mul_lt hm _ (hN top k))]
/-- A row while it is scaled. -/
def sclK (m iv : Nat) (N : Mx) (top j : Nat) : Mx := fun r q => if r = top ∧ q < j then mul m iv (N top q) else N r q
theorem sclK_zero (m iv : Nat) (N : Mx) (top r q : Nat) : sclK m iv N top 0 r q = N r q := by unfold sclK; rw [if_neg (by omega)]
theorem sclK_at (m iv : Nat) (N : Mx) (top j : Nat) : sclK m iv N top j top j = N top j := by unfold sclK; rw [if_neg (by omega)]
theorem sclK_next (m iv : Nat) (N : Mx) (top j y : Nat) (hy : y = mul m iv (N top j)) : upd2 (sclK m iv N top j) top j y = sclK m iv N top (j + 1) := by
  funext r q
  unfold upd2 sclK
  subst hy
  by_cases e : r = top ∧ q = j
  · rw [if_pos e, if_pos (by omega), e.2]
  · rw [if_neg e]
    by_cases e2 : r = top ∧ q < j
    · rw [if_pos e2, if_pos (by omega)]
    · rw [if_neg e2, if_neg (by omega)]
theorem sclK_all {m : Nat} (hm : Fm m) {N : Mx} (hN : Vm m N) (top c n r q : Nat) (hq : q < n) : sclK m (inv m (N top c)) N top n r q = half m N top c 0 r q := by
  unfold sclK half
  by_cases e : r = top
  · rw [if_pos ⟨e, hq⟩, if_pos e, mul_comm hm (inv_lt hm _) (hN top q)]
  · rw [if_neg (fun h => e h.1), if_neg e, if_neg (by omega)]

theorem RN.snoc {N : Nat} {es : Nat → TypeId} {w w' : World} {B : Nat} {vs : Nat → Value} {ks : Nat → Nat} {ls : Nat → List Value} (h : RN N es w B vs ks ls) (hb : Below w.heap.size w w') {v : Value} {k : Nat} {l : List Value} (ho : w'.ownsRow w.heap.size (es N) 1 v k l) (hB : B ≤ w.heap.size) :
    RN (N + 1) es w' B (upd vs N v) (upd ks N k) (upd ls N l) := by
  have nw : ∀ i, i < N → Apart (vs i) v := fun i hi k hk hk' => by
    have h1 := ((h.own i hi).lt k hk).2
    have h2 := (ho.lt k hk').1
    omega
  refine ⟨fun i hi => ?_, fun i j hi hj hne => ?_⟩
  · unfold upd
    by_cases e : i = N
    · subst e
      rw [if_pos rfl, if_pos rfl, if_pos rfl]; exact own_base ho hB
    · rw [if_neg e, if_neg e, if_neg e]; exact own_kept (h.own i (by omega)) hb
  · unfold upd
    by_cases e : i = N
    · rw [if_pos e, if_neg (by omega)]; exact (nw j (by omega)).symm
    · rw [if_neg e]
      by_cases e2 : j = N
      · rw [if_pos e2]; exact nw i (by omega)
      · rw [if_neg e2]; exact h.apart i j (by omega) (by omega) hne
theorem RN.snil {N : Nat} {es : Nat → TypeId} {w : World} {B : Nat} {vs : Nat → Value} {ks : Nat → Nat} {ls : Nat → List Value} (h : RN N es w B vs ks ls) : RN (N + 1) es w B (upd vs N (.slice Option.none 0 0)) (upd ks N 0) (upd ls N []) := by
  have nw : ∀ i, Apart (vs i) (.slice Option.none 0 0) := fun i k _ hk => by cases hk
  refine ⟨fun i hi => ?_, fun i j hi hj hne => ?_⟩
  · unfold upd
    by_cases e : i = N
    · rw [if_pos e, if_pos e, if_pos e]; exact World.ownsRow_nil _ _ _ _
    · rw [if_neg e, if_neg e, if_neg e]; exact h.own i (by omega)
  · unfold upd
    by_cases e : i = N
    · rw [if_pos e, if_neg (by omega)]; exact (nw j).symm
    · rw [if_neg e]
      by_cases e2 : j = N
      · rw [if_pos e2]; exact nw i
      · rw [if_neg e2]; exact h.apart i j (by omega) (by omega) hne
theorem RN.cong {N : Nat} {es : Nat → TypeId} {w : World} {B : Nat} {vs vs' : Nat → Value} {ks ks' : Nat → Nat} {ls ls' : Nat → List Value} (h : RN N es w B vs ks ls) (hv : ∀ i, i < N → vs i = vs' i) (hk : ∀ i, i < N → ks i = ks' i) (hl : ∀ i, i < N → ls i = ls' i) : RN N es w B vs' ks' ls' :=
  ⟨fun i hi => by rw [← hv i hi, ← hk i hi, ← hl i hi]; exact h.own i hi, fun i j hi hj hne => by rw [← hv i hi, ← hv j hj]; exact h.apart i j hi hj hne⟩
theorem RN.pre {N M : Nat} {es : Nat → TypeId} {w : World} {B : Nat} {vs : Nat → Value} {ks : Nat → Nat} {ls : Nat → List Value} (h : RN N es w B vs ks ls) (hM : M ≤ N) : RN M es w B vs ks ls :=
  ⟨fun i hi => h.own i (by omega), fun i j hi hj hne => h.apart i j (by omega) (by omega) hne⟩
/-- A row of another type grows: the rows are as they were. -/
theorem RN.other {N : Nat} {e e' : TypeId} {w w' : World} {B B' k n : Nat} {v : Value} {xs : List Value} {vs : Nat → Value} {ks : Nat → Nat} {ls : Nat → List Value} (h : RN N (fun _ => e) w B vs ks ls) (ho : w.ownsRow B' e' k v n xs) (ht : e ≠ e') (hg : w.grownBy w' v.ownBlock) : RN N (fun _ => e) w' B vs ks ls :=
  ⟨fun i hi => (h.own i hi).kept hg (own_apart2 (h.own i hi) ho ht).kept, h.apart⟩
theorem upd_at {α : Type} (f : Nat → α) (i : Nat) (x : α) : upd f i x i = x := by simp [upd]
theorem upd_ne {α : Type} (f : Nat → α) {i j : Nat} (x : α) (h : j ≠ i) : upd f i x j = f j := by simp [upd, h]
theorem map_upd (vs : Nat → Value) (j : Nat) (v : Value) : (List.range j).map (upd vs j v) = (List.range j).map vs :=
  List.map_congr_left fun i hi => by rw [upd_ne]; have := List.mem_range.1 hi; omega

abbrev syC (m : Int) (v : Value) : List Value := [.int .i64 m, v]
/-- The system while it is built. -/
structure XB (m B ps : Nat) (w0 W : World) (j N : Nat) (hd : Value) (vs : Nat → Value) (ks : Nat → Nat) (ls : Nat → List Value) : Prop where
  box : Blk W ps 102 (syC (m : Int) hd)
  hdr : W.ownsRow B 29 1 hd j ((List.range j).map vs)
  rn : RN N (fun _ => 3) W B vs ks ls
  low : Below w0.heap.size w0 W
  sz : B ≤ W.heap.size
  psl : ps < B
  lb : w0.heap.size ≤ ps
section
variable {m B ps : Nat} {w0 W W' : World} {j N : Nat} {hd : Value} {vs : Nat → Value} {ks : Nat → Nat} {ls : Nat → List Value}
theorem XB.keep (h : XB m B ps w0 W j N hd vs ks ls) (hb : Below W.heap.size W W') : XB m B ps w0 W' j N hd vs ks ls :=
  ⟨h.box.kept hb h.box.lt, own_kept h.hdr hb, h.rn.below hb, h.low.trans (hb.mono h.low.size), Nat.le_trans h.sz hb.size, h.psl, h.lb⟩
/-- A new row, empty yet. -/
theorem XB.eq0 (h : XB m B ps w0 W j j hd vs ks ls) : XB m B ps w0 W j (j + 1) hd (upd vs j (.slice none 0 0)) (upd ks j 0) (upd ls j []) :=
  ⟨h.box, by rw [map_upd]; exact h.hdr, h.rn.snil, h.low, h.sz, h.psl, h.lb⟩
/-- The last row grows. -/
theorem XB.app {v : Value} {k : Nat} {l : List Value} (h : XB m B ps w0 W j (j + 1) hd (upd vs j v) (upd ks j k) (upd ls j l)) {o : Obj} {v' : Value} {k' : Nat} {l' : List Value}
    (ho : W'.ownsRow B 3 1 v' k' l') (hg : (W.alloc o).grownBy W' v.ownBlock) (hat : v'.ownBlock = v.ownBlock ∨ v'.ownBlock = some (W.alloc o).heap.size) : XB m B ps w0 W' j (j + 1) hd (upd vs j v') (upd ks j k') (upd ls j l') := by
  have h2 := h.keep (below_new W o)
  have ho2 := h2.rn.own j (Nat.lt_succ_self j)
  rw [upd_at, upd_at, upd_at] at ho2
  have hr := h2.rn.step j (Nat.lt_succ_self j) (v' := v') (by rw [upd_at]; exact hg) ho (by rw [upd_at]; exact hat)
  refine ⟨h2.box.grown hg (own_ne ho2 h2.box (by decide)), ?_, hr.cong (fun i _ => ?_) (fun i _ => ?_) (fun i _ => ?_), below_grown h2.low ho2 (by have := h.psl; have := h.lb; omega) h2.low.size hg, Nat.le_trans h2.sz hg.size, h.psl, h.lb⟩
  · have h3 := h2.hdr.kept hg (own_apart2 h2.hdr ho2 (by decide)).kept
    rw [map_upd] at h3 ⊢
    exact h3
  · by_cases e : i = j
    · subst e; rw [upd_at, upd_at]
    · rw [upd_ne _ _ e, upd_ne _ _ e, upd_ne _ _ e]
  · by_cases e : i = j
    · subst e; rw [upd_at, upd_at]
    · rw [upd_ne _ _ e, upd_ne _ _ e, upd_ne _ _ e]
  · by_cases e : i = j
    · subst e; rw [upd_at, upd_at]
    · rw [upd_ne _ _ e, upd_ne _ _ e, upd_ne _ _ e]
/-- The header grows and is stored in the box. -/
theorem XB.happ (h : XB m B ps w0 W j (j + 1) hd vs ks ls) {o : Obj} {hd' : Value}
    (ho : W'.ownsRow B 29 1 hd' (j + 1) ((List.range (j + 1)).map vs)) (hg : (W.alloc o).grownBy W' hd.ownBlock) : XB m B ps w0 (W'.setCell ⟨ps, 1, none⟩ hd') (j + 1) (j + 1) hd' vs ks ls := by
  have h2 := h.keep (below_new W o)
  have hbx := h2.box.grown hg (own_ne h2.hdr h2.box (by decide))
  have hrn := h2.rn.other h2.hdr (by decide) hg
  have hlo := below_grown h2.low h2.hdr (by have := h.psl; have := h.lb; omega) h2.low.size hg
  refine ⟨hbx.store 1 hd', own_set ho hbx (by decide) _ _, ⟨fun i hi => own_set (hrn.own i hi) hbx (by decide) _ _, hrn.apart⟩, hlo.setCell (p := ⟨ps, 1, none⟩) h.lb _, ?_, h.psl, h.lb⟩
  · have : (W'.setCell ⟨ps, 1, none⟩ hd').heap.size = W'.heap.size := by simp [World.setCell]
    rw [this]; exact Nat.le_trans h2.sz hg.size
end

theorem rtimes8_any (m a b : Nat) (hm : Fm m) (ha : a < 2 ^ m) (hb : b < 2 ^ m) (w : World) :
    Calls Tryd.prog 83 #[.int .i64 (m : Int), .int .i64 (a : Int), .int .i64 (b : Int)] w fun e w' => e = .returned (.int .i64 ((mul m a b : Nat) : Int)) ∧ w = w' := by
  have HM := hideIt (rmul_any (m : Int) (a : Int) (b : Int) w)
  rw [mlR_is hm ha hb] at HM
  clear hm ha hb
  generalize mul m a b = y at *
  go_enter Tryd.func83, Tryd.ntmps83
  go_wp2_with (first
    | (go_at_call 39; refine HM.out.mono ?_; rintro e w' ⟨rfl, rfl⟩))
  go_ret
  exact ⟨rfl, rfl⟩
theorem rinverse8_any (m a : Nat) (hm : Fm m) (ha : a < 2 ^ m) (h0 : a ≠ 0) (w : World) :
    Calls Tryd.prog 82 #[.int .i64 (m : Int), .int .i64 (a : Int)] w fun e w' => e = .returned (.int .i64 ((inv m a : Nat) : Int)) ∧ w = w' := by
  have HM := hideIt (rinv_any (m : Int) (a : Int) w)
  rw [invR_is hm ha h0] at HM
  clear hm ha h0
  generalize inv m a = y at *
  go_enter Tryd.func82, Tryd.ntmps82
  go_wp2_with (first
    | (go_at_call 86; refine HM.out.mono ?_; rintro e w' ⟨rfl, rfl⟩))
  go_ret
  exact ⟨rfl, rfl⟩

end Go.Proofs.YtpjgmekpnlpjaaaDoor
