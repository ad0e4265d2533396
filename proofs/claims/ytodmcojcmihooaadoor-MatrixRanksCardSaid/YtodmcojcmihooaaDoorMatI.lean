/-
  Results that are made cell by cell; Identity, walked.
-/
import Derived.Test.YtodmcojcmihooaaDoorMatT
namespace Go.Proofs.YtodmcojcmihooaaDoor
open Go.RowKit
set_option linter.unusedVariables false

def upd2 (M : Mx) (i j x : Nat) : Mx := fun r q => if r = i ∧ q = j then x else M r q
theorem gl_set {R C : Nat} (M : Mx) {i j : Nat} (x : Nat) (hi : i < R) (hj : j < C) : ((nl (R * C) (gl C M)).map iv).set (i * C + j) (.int .i64 (x : Int)) = (nl (R * C) (gl C (upd2 M i j x))).map iv := by
  rw [set_nl _ _ _ (ix_lt hi hj)]
  congr 1
  apply nl_congr
  intro k hk
  obtain ⟨h1, h2, h3⟩ := ix_of hk
  show (if k = i * C + j then x else M (k / C) (k % C)) = if k / C = i ∧ k % C = j then x else M (k / C) (k % C)
  by_cases e : k = i * C + j
  · rw [if_pos e, if_pos (by rw [e, ix_div hj, ix_mod hj]; exact ⟨rfl, rfl⟩)]
  · rw [if_neg e, if_neg (fun q => e (by rw [h3, q.1, q.2]))]
theorem gl_congr {R C : Nat} {M N : Mx} (h : ∀ i j, i < R → j < C → M i j = N i j) : (nl (R * C) (gl C M)).map iv = (nl (R * C) (gl C N)).map iv := by
  congr 1
  apply nl_congr
  intro k hk
  obtain ⟨h1, h2, _⟩ := ix_of hk
  exact h _ _ h1 h2
theorem row_own {g R C i : Nat} (hi : i < R) (h0 : 0 < C) : rowA (some ⟨g, 0, none⟩) (R * C) (i * C) = some ⟨g, i * C, none⟩ := by
  have hle : (i + 1) * C ≤ R * C := Nat.mul_le_mul_right _ hi
  rw [Nat.add_mul, Nat.one_mul] at hle
  unfold rowA
  rw [if_neg (by omega)]
  simp [addr_add]
theorem own_of_blk {w : World} {base g n : Nat} {e : TypeId} {xs : List Value} (h : Blk w g e xs) (hb : base ≤ g) (hl : xs.length = n) (hn : n ≤ maxLen) : w.ownsRow base e 1 (.slice (some ⟨g, 0, none⟩) n n) n xs :=
  ⟨by rw [hl, Nat.mul_one], .inr ⟨g, n, xs.toArray, rfl, hb, h, Nat.le_refl _, hn, by simp [hl], by rw [Nat.mul_one, ← hl]; simp⟩⟩
theorem Sel.at_ {w6 w : World} {gp : Nat} (h : Sel (fun k _ => k = gp) w6 w) {p : Nat} {t : TypeId} {cs : List Value} (hb : Blk w6 p t cs) (hne : p ≠ gp) : Blk w p t cs := h.blk hb (fun _ q => hne q)
/-- The world that a maker of a matrix works on: its box, its block of cells, the result's cell. -/
structure Mk (w0 w6 : World) (pr p6 gp m R C : Nat) (w : World) (M : Mx) : Prop where
  w06 : Below w0.heap.size w0 w6
  pr6 : Blk w6 pr 24 (mtC 0 0 0 (.slice none 0 0))
  b6 : Blk w6 p6 24 (mtC (m : Int) (R : Int) (C : Int) (.slice (some ⟨gp, 0, none⟩) (R * C) (R * C)))
  g6 : gp < w6.heap.size
  prl : w0.heap.size ≤ pr
  gl0 : w0.heap.size ≤ gp
  ne1 : pr ≠ gp
  ne2 : p6 ≠ gp
  sel : Sel (fun k _ => k = gp) w6 w
  cells : Blk w gp 3 ((nl (R * C) (gl C M)).map iv)
section
variable {w0 w6 : World} {pr p6 gp m R C : Nat} {w : World} {M : Mx}
theorem Mk.low (h : Mk w0 w6 pr p6 gp m R C w M) : Below w0.heap.size w0 w := h.w06.trans (h.sel.below h.w06.size (fun k o hk q => by have := h.gl0; omega))
theorem Mk.box (h : Mk w0 w6 pr p6 gp m R C w M) : Blk w p6 24 (mtC (m : Int) (R : Int) (C : Int) (.slice (some ⟨gp, 0, none⟩) (R * C) (R * C))) := h.sel.at_ h.b6 h.ne2
theorem Mk.res (h : Mk w0 w6 pr p6 gp m R C w M) : Blk w pr 24 (mtC 0 0 0 (.slice none 0 0)) := h.sel.at_ h.pr6 h.ne1
theorem Mk.next (h : Mk w0 w6 pr p6 gp m R C w M) {w' : World} {N : Mx} (hs : Sel (fun k _ => k = gp) w w') (hc : Blk w' gp 3 ((nl (R * C) (gl C N)).map iv)) : Mk w0 w6 pr p6 gp m R C w' N :=
  ⟨h.w06, h.pr6, h.b6, h.g6, h.prl, h.gl0, h.ne1, h.ne2, h.sel.trans hs, hc⟩
theorem Mk.below (h : Mk w0 w6 pr p6 gp m R C w M) {w' : World} (hb : Below w.heap.size w w') : Mk w0 w6 pr p6 gp m R C w' M := h.next (Sel.of_below _ hb) (h.cells.kept hb h.cells.lt)
theorem Mk.congr (h : Mk w0 w6 pr p6 gp m R C w M) {N : Mx} (he : ∀ i j, i < R → j < C → M i j = N i j) : Mk w0 w6 pr p6 gp m R C w N := ⟨h.w06, h.pr6, h.b6, h.g6, h.prl, h.gl0, h.ne1, h.ne2, h.sel, by rw [← gl_congr he]; exact h.cells⟩
/-- A store into the matrix. -/
theorem Mk.store (h : Mk w0 w6 pr p6 gp m R C w M) {i j x : Nat} (hi : i < R) (hj : j < C) : Mk w0 w6 pr p6 gp m R C (w.setCell ⟨gp, i * C + j, none⟩ (.int .i64 (x : Int))) (upd2 M i j x) :=
  h.next ((Sel.refl _ w).setCell (S := fun k _ => k = gp) rfl _) (by rw [← gl_set M x hi hj]; exact h.cells.store _ _)
theorem Mk.cell (h : Mk w0 w6 pr p6 gp m R C w M) {i j : Nat} (hi : i < R) (hj : j < C) : w.cell? ⟨gp, i * C + j, none⟩ = some (.int .i64 (M i j : Int)) ∧ w.frozen? ⟨gp, i * C + j, none⟩ = false := by
  refine ⟨?_, h.cells.free _⟩
  rw [h.cells.cell, iv_at (ix_lt hi hj), gl_at M hj]
theorem Mk.tabs (h : Mk w0 w6 pr p6 gp m R C w M) (hT : Tabs w0) : Tabs w := hT.keep h.low
theorem Mk.fin (h : Mk w0 w6 pr p6 gp m R C w M) (hR : R ≤ 40) (hC : C ≤ 40) {w' : World} (ht : Turned pr w w') : MRes w0 (mkM m R C M, 0) (.returned (.tuple #[mtV (m : Int) (R : Int) (C : Int) (.slice (some ⟨gp, 0, none⟩) (R * C) (R * C)), .int .i64 0])) w' := by
  have hle : R * C ≤ 40 * 40 := Nat.mul_le_mul hR hC
  refine ⟨.slice (some ⟨gp, 0, none⟩) (R * C) (R * C), rfl, ?_, ht.below h.low h.prl⟩
  show w'.ownsRow _ _ _ _ (mkM m R C M).l.length ((nl (R * C) (gl C M)).map iv)
  rw [mk_len]
  exact own_of_blk (ht.blk h.cells (Ne.symm h.ne1)) h.gl0 (by rw [List.length_map, nl_len]) (by unfold maxLen; omega)
end
theorem MRes.bad {w w' : World} (hb : Below w.heap.size w w') (x : Int) : MRes w (zeroM, x) (.returned (.tuple #[mtV 0 0 0 (.slice none 0 0), .int .i64 x])) w' := ⟨.slice none 0 0, rfl, World.ownsRow_nil _ _ _ _, hb⟩
/-- The first state: zeros. -/
theorem Mk.start {w0 w1 w5 w6 : World} {pr gp m R C : Nat} (h01 : Below w0.heap.size w0 w1) (hpr : Blk w1 pr 24 (mtC 0 0 0 (.slice none 0 0))) (hprl : w0.heap.size ≤ pr) (h15 : Below w1.heap.size w1 w5) (hg : w1.heap.size ≤ gp) (hc : Blk w5 gp 3 ((nl (R * C) fun _ => 0).map iv))
    (h6 : w6 = w5.alloc (.cells (mtC (m : Int) (R : Int) (C : Int) (.slice (some ⟨gp, 0, none⟩) (R * C) (R * C))).toArray 24)) : Mk w0 w6 pr w5.heap.size gp m R C w6 (fun _ _ => 0) := by
  have hz := h01.size
  have h1 := hpr.lt
  have h2 := hc.lt
  subst h6
  refine ⟨(h01.trans (h15.mono hz)).alloc (by have := h15.size; omega) _, (hpr.kept h15 h1).alloc _, Blk.new _ _ _, by simp; omega, hprl, by omega, by omega, by omega, Sel.refl _ _, hc.alloc _⟩

def MkE (w0 : World) (pr p6 gp m R C : Nat) (w : World) (M : Mx) : Prop := ∃ w6, Mk w0 w6 pr p6 gp m R C w M
/-- A row of the call's own matrix. -/
theorem row_mk {gp R C i : Nat} (m : Nat) (hi : i < R) (h0 : 0 < C) (hR : R ≤ 40) (hC : C ≤ 40) (W : World) :
    Calls Tryd.prog 36 #[mtV (m : Int) (R : Int) (C : Int) (.slice (some ⟨gp, 0, none⟩) (R * C) (R * C)), .int .i64 (i : Int)] W fun e w' => e = .returned (.slice (some ⟨gp, i * C, none⟩) C (R * C - i * C)) ∧ Below W.heap.size W w' := by
  have h := row_any (m : Int) R C (some ⟨gp, 0, none⟩) (R * C) (R * C) i hi hR hC (Nat.le_refl _) (Nat.le_refl _) W
  rw [row_own hi h0] at h
  exact h
theorem wpList_ldM {ops : Array Oper} {rest : List Oper} {o : Oper} {a : Act} {w : World} {Q : Exit → Act → World → Prop} (hgd : o.guard = none) (x : Operand) (ho : o.op = .load 24 x) (p : Nat) (F R C : Int) (s : Value) (hx : a.eval x = .pointer (some ⟨p, 0, none⟩))
    (hp : Blk w p 24 (mtC F R C s)) (h : wpList Tryd.prog ops Q rest (a.put o.dst (mtV F R C s)) w) : wpList Tryd.prog ops Q (o :: rest) a w :=
  wpList_get hgd _ x ho p (mtC F R C s) _ _ hx hp Tryd.underlying24 rfl isz4 h
theorem wpList_stM {ops : Array Oper} {rest : List Oper} {o : Oper} {a : Act} {w : World} {Q : Exit → Act → World → Prop} (hgd : o.guard = none) (x y : Operand) (ho : o.op = .store 24 x y) (p : Nat) (F R C F' R' C' : Int) (s s' : Value) (hs : s.oneCell' = true) (hx : a.eval x = .pointer (some ⟨p, 0, none⟩)) (hy : a.eval y = mtV F R C s)
    (hp : Blk w p 24 (mtC F' R' C' s')) (h : ∀ w', Hid (Turned p w w') → Hid (Blk w' p 24 (mtC F R C s)) → wpList Tryd.prog ops Q rest (a.put o.dst undef) w') : wpList Tryd.prog ops Q (o :: rest) a w :=
  wpList_put hgd _ x y ho p (mtC F R C s) (mtC F' R' C' s') 24 hx hy hp isz4 rfl (mt_one _ _ _ hs) (fun w' h1 h2 => h w' h1 h2)

end Go.Proofs.YtodmcojcmihooaaDoor
