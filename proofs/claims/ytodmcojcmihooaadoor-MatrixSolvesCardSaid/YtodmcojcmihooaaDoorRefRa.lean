/-
  The reference's elimination: the plain steps, and the state of the walk.
-/
import Derived.Test.YtodmcojcmihooaaDoorRefT
import Derived.Test.YtodmcojcmihooaaDoorMatV2
namespace Go.Proofs.YtodmcojcmihooaaDoor
open Go.RowKit
set_option linter.unusedVariables false

/-- The copy while it is made. -/
def cpK (E : Mx) (C k : Nat) : Mx := fun r q => if r * C + q < k then E r q else 0
theorem cpK_next (E : Mx) {R C k : Nat} (hk : k < R * C) (r q : Nat) (hq : q < C) : upd2 (cpK E C k) (k / C) (k % C) (E (k / C) (k % C)) r q = cpK E C (k + 1) r q := by
  obtain ⟨h1, h2, h3⟩ := ix_of hk
  unfold upd2 cpK
  by_cases e : r * C + q = k
  · have e1 : r = k / C := by rw [← e, ix_div hq]
    have e2 : q = k % C := by rw [← e, ix_mod hq]
    rw [if_pos ⟨e1, e2⟩, if_pos (by omega), e1, e2]
  · rw [if_neg (fun h => e (by rw [h.1, h.2, ← h3]))]
    by_cases e2 : r * C + q < k
    · rw [if_pos e2, if_pos (by omega)]
    · rw [if_neg e2, if_neg (by omega)]
/-- Two rows while they are exchanged and one is scaled. -/
def swK (m : Nat) (M : Mx) (p t iv k : Nat) : Mx := fun r q => if q < k then (if r = t then mul m (M p q) iv else if r = p then M t q else M r q) else M r q
theorem swK_zero (m : Nat) (M : Mx) (p t iv r q : Nat) : swK m M p t iv 0 r q = M r q := by unfold swK; rw [if_neg (by omega)]
theorem swK_at (m : Nat) (M : Mx) (p t iv k r : Nat) : swK m M p t iv k r k = M r k := by unfold swK; rw [if_neg (by omega)]
theorem swK_next {m : Nat} (hm : Fm m) {M : Mx} (hM : Vm m M) (p t iv k x y : Nat) (hi : iv < 2 ^ m) (hx : x = M t k) (hy : y = mul m iv (M p k)) : upd2 (upd2 (swK m M p t iv k) p k x) t k y = swK m M p t iv (k + 1) := by
  funext r q
  unfold upd2 swK
  subst hx hy
  by_cases e : q = k
  · subst e
    by_cases e1 : r = t
    · rw [if_pos ⟨e1, rfl⟩, if_pos (by omega), if_pos e1, mul_comm hm hi (hM p q)]
    · rw [if_neg (fun h => e1 h.1), if_pos (show q < q + 1 by omega), if_neg e1]
      by_cases e2 : r = p
      · rw [if_pos ⟨e2, rfl⟩, if_pos e2]
      · rw [if_neg (fun h => e2 h.1), if_neg e2, if_neg (Nat.lt_irrefl q)]
  · rw [if_neg (fun h => e h.2), if_neg (fun h => e h.2)]
    by_cases e2 : q < k
    · rw [if_pos e2, if_pos (show q < k + 1 by omega)]
    · rw [if_neg e2, if_neg (show ¬ q < k + 1 by omega)]
theorem swK_all (m : Nat) (M : Mx) (p t c C r q : Nat) (hq : q < C) : swK m M p t (inv m (M p c)) C r q = half m (swp M t p) t c 0 r q := by
  unfold swK half
  have hN : swp M t p t = M p := by unfold swp; rw [if_pos rfl]
  rw [if_pos hq, hN, if_neg (show ¬ r < 0 by omega)]
  by_cases e : r = t
  · rw [if_pos e, if_pos e]
  · rw [if_neg e, if_neg e]
    unfold swp
    rw [if_neg e]
    by_cases e2 : r = p
    · rw [if_pos e2, if_pos e2]
    · rw [if_neg e2, if_neg e2]
/-- A row while another one is added. -/
def mixK (P Q : Mx) (x k : Nat) : Mx := fun r q => if r = x ∧ q < k then Q r q else P r q
theorem mixK_zero (P Q : Mx) (x r q : Nat) : mixK P Q x 0 r q = P r q := by unfold mixK; rw [if_neg (by omega)]
theorem mixK_at (P Q : Mx) (x k r : Nat) : mixK P Q x k r k = P r k := by unfold mixK; rw [if_neg (by omega)]
theorem mixK_next (P Q : Mx) (x k y : Nat) (hy : y = Q x k) : upd2 (mixK P Q x k) x k y = mixK P Q x (k + 1) := by
  funext r q
  unfold upd2 mixK
  subst hy
  by_cases e : r = x ∧ q = k
  · rw [if_pos e, if_pos (by omega), e.1, e.2]
  · rw [if_neg e]
    by_cases e2 : r = x ∧ q < k
    · rw [if_pos e2, if_pos (by omega)]
    · rw [if_neg e2, if_neg (by omega)]
theorem half_same {m : Nat} {N : Mx} {top c x : Nat} {r q : Nat} (hr : r ≠ x) : half m N top c x r q = half m N top c (x + 1) r q := by
  unfold half
  by_cases e : r = top
  · rw [if_pos e, if_pos e]
  · rw [if_neg e, if_neg e]
    by_cases e2 : r < x
    · rw [if_pos e2, if_pos (by omega)]
    · rw [if_neg e2, if_neg (by omega)]
theorem mixK_all (m : Nat) (N : Mx) (top c x C r q : Nat) (hq : q < C) : mixK (half m N top c x) (half m N top c (x + 1)) x C r q = half m N top c (x + 1) r q := by
  unfold mixK
  by_cases e : r = x
  · rw [if_pos ⟨e, hq⟩]
  · rw [if_neg (fun h => e h.1), half_same e]
theorem half_skip0 (m : Nat) (N : Mx) (top c x : Nat) (h : N x c = 0) : half m N top c x = half m N top c (x + 1) := by
  funext r q
  by_cases e : r = x
  · subst e
    unfold half
    by_cases e1 : r = top
    · rw [if_pos e1, if_pos e1]
    · rw [if_neg e1, if_neg e1, if_neg (by omega), if_pos (by omega), h, mul_zeroR, Nat.xor_zero]
  · exact half_same e
theorem half_top (m : Nat) (N : Mx) (top c x k : Nat) : half m N top c x top k = mul m (N top k) (inv m (N top c)) := by
  unfold half; rw [if_pos rfl]
theorem half_new {m : Nat} (hm : Fm m) {N : Mx} (hN : Vm m N) {top c x : Nat} (h : x ≠ top) (k : Nat) : half m N top c x x k ^^^ mul m (N x c) (half m N top c x top k) = half m N top c (x + 1) x k := by
  rw [half_top]
  unfold half
  rw [if_neg h, if_neg (by omega), if_neg h, if_pos (by omega), mul_comm hm (hN x c) (mul_lt hm _ (hN top k))]
theorem red_full (m R : Nat) (A : Mx) (c : Nat) (h : (red m R A c).2.length = R) : ∀ d, red m R A (c + d) = red m R A c
  | 0 => rfl
  | d + 1 => by
    show stp m R (c + d) (red m R A (c + d)) = _
    rw [red_full m R A c h d]
    unfold stp
    have := (prow_le (M := (red m R A c).1) (col := c + d) (Nat.le_of_eq h)).1
    rw [if_neg (by omega)]
theorem rinv_is {m x : Nat} (hm : Fm m) (hx : x < 2 ^ m) (h0 : x ≠ 0) (w : World) : Calls Tryd.prog 51 #[.int .i64 (m : Int), .int .i64 (x : Int)] w fun e w' => e = .returned (.tuple #[.int .i64 ((inv m x : Nat) : Int), .int .i64 0]) ∧ w = w' := by
  have h := rinv_any (m : Int) (x : Int) w
  rw [invR_is hm hx h0] at h
  exact h

/-- The state of the elimination: the matrix, and the list of pivots. -/
structure RI (w0 w6 : World) (pr p6 gp m R C : Nat) (M : Mx) (pv : List Nat) (v : Value) (W : World) : Prop where
  mat : Mk w0 w6 pr p6 gp m R C W M
  own : W.ownsRow w6.heap.size 3 1 v pv.length (pvC pv)
section
variable {w0 w6 : World} {pr p6 gp m R C : Nat} {M : Mx} {pv : List Nat} {v : Value} {W : World}
theorem RI.next (h : RI w0 w6 pr p6 gp m R C M pv v W) {W' : World} {N : Mx} (hm : Mk w0 w6 pr p6 gp m R C W' N) (hs : Sel (fun k _ => k = gp) W W') : RI w0 w6 pr p6 gp m R C N pv v W' :=
  ⟨hm, own_sel h.own hs fun k hk o q => by have := (h.own.lt k hk).1; have := h.mat.g6; omega⟩
theorem RI.below (h : RI w0 w6 pr p6 gp m R C M pv v W) {W' : World} (hb : Below W.heap.size W W') : RI w0 w6 pr p6 gp m R C M pv v W' :=
  h.next (h.mat.below hb) (Sel.of_below _ hb)
theorem RI.congr (h : RI w0 w6 pr p6 gp m R C M pv v W) {N : Mx} (he : ∀ i j, i < R → j < C → M i j = N i j) : RI w0 w6 pr p6 gp m R C N pv v W := ⟨h.mat.congr he, h.own⟩
theorem RI.store (h : RI w0 w6 pr p6 gp m R C M pv v W) {i j x : Nat} (hi : i < R) (hj : j < C) : RI w0 w6 pr p6 gp m R C (upd2 M i j x) pv v (W.setCell ⟨gp, i * C + j, none⟩ (.int .i64 (x : Int))) :=
  h.next (h.mat.store hi hj) ((Sel.refl _ W).setCell (S := fun k _ => k = gp) rfl _)
theorem RI.app (h : RI w0 w6 pr p6 gp m R C M pv v W) {W' : World} {v' : Value} {pv' : List Nat} (hb : Below w6.heap.size W W') (ho : W'.ownsRow w6.heap.size 3 1 v' pv'.length (pvC pv')) : RI w0 w6 pr p6 gp m R C M pv' v' W' :=
  ⟨⟨h.mat.w06, h.mat.pr6, h.mat.b6, h.mat.g6, h.mat.prl, h.mat.gl0, h.mat.ne1, h.mat.ne2, h.mat.sel.later hb, h.mat.cells.kept hb h.mat.g6⟩, ho⟩
theorem RI.sz (h : RI w0 w6 pr p6 gp m R C M pv v W) : w6.heap.size ≤ W.heap.size := h.mat.sel.size
end

/-- A matrix and a list of numbers. -/
def RRes (w : World) (r : Mt) (pv : List Nat) (e : Ending) (w' : World) : Prop :=
  ∃ s v, e = .returned (.tuple #[mtV r.F r.R r.C s, v]) ∧ w'.ownsRow w.heap.size 3 1 s r.l.length (r.l.map iv) ∧ w'.ownsRow w.heap.size 3 1 v pv.length (pvC pv) ∧ Below w.heap.size w w'
theorem RI.fin {w0 w6 : World} {pr p6 gp m R C : Nat} {M : Mx} {pv : List Nat} {v : Value} {W : World} (h : RI w0 w6 pr p6 gp m R C M pv v W) (hR : R ≤ 40) (hC : C ≤ 80) {w' : World} (ht : Turned pr W w') :
    RRes w0 (mkM m R C M) pv (.returned (.tuple #[mtV (m : Int) (R : Int) (C : Int) (.slice (some ⟨gp, 0, none⟩) (R * C) (R * C)), v])) w' := by
  have hle : R * C ≤ 40 * 80 := Nat.mul_le_mul hR hC
  have hm := h.mat
  have hpr := hm.pr6.lt
  have h06 := hm.w06.size
  refine ⟨_, v, rfl, ?_, own_low (own_turn h.own ht hpr) h06, ht.below hm.low hm.prl⟩
  show w'.ownsRow _ _ _ _ (mkM m R C M).l.length ((nl (R * C) (gl C M)).map iv)
  rw [mk_len]
  exact own_of_blk (ht.blk hm.cells (Ne.symm hm.ne1)) hm.gl0 (by rw [List.length_map, nl_len]) (by unfold maxLen; omega)

end Go.Proofs.YtodmcojcmihooaaDoor
