/-
  What a definition means, walked: code, the first half: the code that is begun.
-/
import Derived.Test.YtcogkdnlpjfgdaaGreatDoorCodD
namespace Go.Proofs.YtcogkdnlpjfgdaaGreatDoor
open Go.RowKit
set_option linter.unusedVariables false
set_option linter.unusedSimpArgs false

section
variable {P : Program} {md : Region.Mode} {ops : Array Oper} {Q : Exit → Act → World → Prop} {L : List (Nat × (World → Prop))}
theorem wpOp_of_list {i : Nat} {o : Oper} {K1 : Act → World → Prop} {a : Act} {w : World} (ho : ops[i]? = some o) (h1 : wpList P ops (Exit.then K1 Q) [o] a w) : wpOp P ops Q i K1 a w := by
  unfold wpOp
  simp only [ho]
  unfold wpList at h1
  split
  · rename_i hw
    rw [if_pos hw] at h1
    rcases h1 with h1 | ⟨h1, a0, w0, h2⟩
    · refine .inl ?_
      unfold Oper.wp at h1 ⊢
      generalize (execOp a.eval o).run P w = r at h1 ⊢
      cases r with
      | ok n w' =>
        cases n <;> simp only [Oper.upon] at h1 ⊢
        case value u => exact h1
        case skip => exact h1
        case defer d => exact h1
        case enter f args =>
          refine Calls.mono h1 fun e w'' he => ?_
          cases e <;> exact he
        case row row args => exact h1
      | halt x w' =>
        cases x <;> simp only [Oper.upon] at h1 ⊢
        case panic u => exact h1
    · exact .inr ⟨h1, a0, w0, h2⟩
  · rename_i hw
    rw [if_neg hw] at h1
    exact h1
theorem wpAnyL_two (i j : Nat) {oi oj : Oper} {fuel : Nat} {listed : Array Bool} {a : Act} {w : World} (hr : Region.ready md ops listed = [i, j]) (hi : ops[i]? = some oi) (hj : ops[j]? = some oj)
    (h1 : ∀ K : Act → World → Prop, (∀ a' w', Hooks L (listed.setIfInBounds i true) w' → wpAnyL P md ops Q L fuel (listed.setIfInBounds i true) a' w' → K a' w') → wpList P ops (Exit.then K Q) [oi] a w)
    (h2 : ∀ K : Act → World → Prop, (∀ a' w', Hooks L (listed.setIfInBounds j true) w' → wpAnyL P md ops Q L fuel (listed.setIfInBounds j true) a' w' → K a' w') → wpList P ops (Exit.then K Q) [oj] a w) : wpAnyL P md ops Q L (fuel + 1) listed a w := by
  refine ⟨fun h0 => (by rw [hr] at h0; cases h0), fun k hk => ?_⟩
  rw [hr] at hk
  rcases List.mem_cons.1 hk with e | hk
  · subst e
    exact wpOp_of_list hi (h1 _ (fun a' w' p q => ⟨p, q⟩))
  · rw [List.mem_singleton] at hk
    subst hk
    exact wpOp_of_list hj (h2 _ (fun a' w' p q => ⟨p, q⟩))
/-- Whatever way is gone: what stands behind the region is gone through once. -/
theorem fork_code (s1 s2 s3 s4 : Nat) (v1 v2 v3 : Value) (R : Nat → World → Prop) {fuel : Nat} {listed : Array Bool} {a : Act} {w : World}
    (h1 : ∀ Q' : Exit → Act → World → Prop, (∀ c W, R c W → Q' .normal ((((a.put (some s1) v1).put (some s2) v2).put (some s3) v3).put (some s4) (.pointer (some ⟨c, 0, none⟩))) W) → wpAnyL P md ops Q' L fuel listed a w)
    (h2 : ∀ c W, R c W → Q .normal ((((a.put (some s1) v1).put (some s2) v2).put (some s3) v3).put (some s4) (.pointer (some ⟨c, 0, none⟩))) W) : wpAnyL P md ops Q L fuel listed a w := h1 Q h2
end

/-- How the meaning of a definition is handed back. -/
def CodeE (C : Nat) (r : Cd × Nat × Int) (e : Ending) (w' : World) : Prop :=
  (r.2.2 = 0 ∧ ∃ A c, e = .returned (.tuple #[cdV r.1.name r.1.field r.1.data (.slice A r.1.par.length c) r.1.dom, .int .i64 0, .int .i64 0]) ∧ PR w' C (.slice A r.1.par.length c) r.1.par) ∨
  (r.2.2 ≠ 0 ∧ e = .returned (.tuple #[cdV [] 0 0 (.slice none 0 0) 0, .int .i64 (r.2.1 : Int), .int .i64 r.2.2]))
theorem icd : (Tryz.prog.info? 24).map (·.size) = some 5 := by kernel_rfl
theorem res_code {P : Program} {fn : Func} {p t1 t2 : Tmp} {T : TypeId} (h : fn.results = #[.cell p T, .tmp t1, .tmp t2]) (tmps : Array Value) (w : World) (g : Nat) (ty : TypeId) (cs : List Value) (d : TypeDesc)
    (hp : tmps.getD p undef = .pointer (some ⟨g, 0, none⟩)) (hg : Blk w g ty cs) (hu : P.underlying T = some d) (hd : d.isRow = true) (hi : (P.info? T).map (·.size) = some cs.length) :
    (results fn tmps).run P w = .ok (.tuple #[.agg cs.toArray, tmps.getD t1 undef, tmps.getD t2 undef]) w := by
  have hl := run_loadVar_mid (P := P) w g 0 T cs d (fun j v hv => by rw [hg.cell, Nat.zero_add]; exact hv) hu hd hi
  have ha : ∀ W, (asAddr (.pointer (some ⟨g, 0, none⟩))).run P W = .ok ⟨g, 0, none⟩ W := fun _ => rfl
  simp only [results, h]
  simp only [List.mapM_cons, List.mapM_nil, hp, bind_pure_comp, map_pure, Array.mapM_eq_mapM_toList]
  simp [Sem.run_bind, ha, hl, Result.andThen]

theorem RowsR.row {w : World} {C B : Nat} {v : Value} {xs : List Ln} (h : RowsR w C B v xs) {j : Nat} (hj : j < xs.length) :
    ∃ (g c p : Nat) (tx : Bs) (A1 : Option Addr) (n1 c1 : Nat) (A2 : Option Addr) (n2 c2 : Nat), v = .slice (some ⟨g, 0, none⟩) xs.length c ∧ g < w.heap.size ∧ w.cell? ⟨g, j * 4, none⟩ = some (.int .i64 (p : Int)) ∧ w.cell? ⟨g, j * 4 + 1, none⟩ = some (sv tx) ∧
      w.cell? ⟨g, j * 4 + 2, none⟩ = some (.slice A1 n1 c1) ∧ w.cell? ⟨g, j * 4 + 3, none⟩ = some (.slice A2 n2 c2) ∧ RowR w B xs[j] [.int .i64 (p : Int), sv tx, .slice A1 n1 c1, .slice A2 n2 c2] ∧ p = (xs[j]).key.ps := by
  obtain ⟨css, ho, ha⟩ := h
  obtain ⟨cs, hc, hr⟩ := All2.at_ ha (List.getElem?_eq_getElem hj)
  obtain ⟨va, vb, rfl, h3⟩ := hr
  have hf : (∃ A1 n1 c1, va = .slice A1 n1 c1) ∧ ∃ A2 n2 c2, vb = .slice A2 n2 c2 := by
    rcases h3 with ⟨_, q1, q2⟩ | ⟨_, rfl, q2, _⟩
    · obtain ⟨A1, c1, rfl, _⟩ := own_form q1
      obtain ⟨A2, c2, rfl, _⟩ := own_form q2
      exact ⟨⟨_, _, _, rfl⟩, _, _, _, rfl⟩
    · obtain ⟨A2, c2, rfl, _⟩ := own_form q2
      exact ⟨⟨_, _, _, rfl⟩, _, _, _, rfl⟩
  obtain ⟨⟨A1, n1, c1, rfl⟩, A2, n2, c2, rfl⟩ := hf
  have hl : ∀ (xs : List Ln) (css : List (List Value)), All2 (RowR w B) xs css → ∀ (j : Nat) (cs : List Value), css[j]? = some cs → ∀ k u, cs[k]? = some u → css.flatten[j * 4 + k]? = some u := by
    intro xs
    induction xs with
    | nil =>
      intro css h j cs hj
      cases css with
      | nil => simp at hj
      | cons c css => exact h.elim
    | cons x xs ih =>
      intro css h j cs hj k u hk
      cases css with
      | nil => exact h.elim
      | cons c css =>
        have hc4 := h.1.len
        cases j with
        | zero =>
          injection hj with hj
          subst hj
          rw [List.flatten_cons, Nat.zero_mul, Nat.zero_add, List.getElem?_append_left (List.getElem?_eq_some_iff.1 hk).1]
          exact hk
        | succ j =>
          have hj' : css[j]? = some cs := hj
          rw [List.flatten_cons, List.getElem?_append_right (by omega), show (j + 1) * 4 + k - c.length = j * 4 + k by omega]
          exact ih css h.2 j cs hj' k u hk
  rcases ho.2 with ⟨rfl, h0⟩ | ⟨g, cap, cur, rfl, _, hg, _, _, _, ht⟩
  · omega
  · have hx : ∀ k u, css.flatten[k]? = some u → w.cell? ⟨g, k, none⟩ = some u := fun k u hu => by
      have := World.ownsRow.cells ho (g := g) rfl k u hu
      rwa [addr_add, Nat.zero_add] at this
    have hh := hl xs css ha j _ hc
    refine ⟨g, cap, (xs[j]).key.ps, (xs[j]).key.tx, A1, n1, c1, A2, n2, c2, rfl, (Array.getElem?_eq_some_iff.1 hg).1, ?_, ?_, ?_, ?_, ⟨_, _, rfl, h3⟩, rfl⟩
    · exact hx _ _ (hh 0 _ rfl)
    · exact hx _ _ (hh 1 _ rfl)
    · exact hx _ _ (hh 2 _ rfl)
    · exact hx _ _ (hh 3 _ rfl)
theorem RowR.kept {w w' : World} {B : Nat} {x : Ln} {cs : List Value} (hr : RowR w B x cs) (hb : Below w.heap.size w w') : RowR w' B x cs := RowR.imp (fun v l h => own_kept h hb) x cs hr
theorem zero_put {w : World} {g B : Nat} {c0 c1 c2 c3 c4 : Value} (h : Blk w g 24 [c0, c1, c2, c3, c4]) (hg : B ≤ g) (v0 v1 v2 v3 v4 : Value) :
    Blk (((((w.setCell ⟨g, 0, none⟩ v0).setCell ⟨g, 1, none⟩ v1).setCell ⟨g, 2, none⟩ v2).setCell ⟨g, 3, none⟩ v3).setCell ⟨g, 4, none⟩ v4) g 24 [v0, v1, v2, v3, v4] ∧
    Below B w (((((w.setCell ⟨g, 0, none⟩ v0).setCell ⟨g, 1, none⟩ v1).setCell ⟨g, 2, none⟩ v2).setCell ⟨g, 3, none⟩ v3).setCell ⟨g, 4, none⟩ v4) :=
  ⟨((((h.store 0 v0).store 1 v1).store 2 v2).store 3 v3).store 4 v4, below_set (below_set (below_set (below_set (below_set (Below.refl _ _) hg _ _) hg _ _) hg _ _) hg _ _) hg _ _⟩

theorem two_ne : (2 : Int) ≠ 0 := by decide
theorem cell_drew (W : World) (a : Addr) : W.drew.cell? a = W.cell? a := rfl
theorem blk_drew {W : World} {g : Nat} {t : TypeId} {cs : List Value} (h : Blk W g t cs) : Blk W.drew g t cs := h
/-- The cells of a definition. -/
abbrev dfL (nm f d : Tk) (m1 : Int) (m2 : Bs) (v : Value) : List Value := [.int .i64 (nm.ps : Int), sv nm.tx, .int .i64 (f.ps : Int), sv f.tx, .int .i64 (d.ps : Int), sv d.tx, .int .i64 m1, sv m2, v]

set_option maxHeartbeats 4000000 in
set_option maxRecDepth 100000 in
theorem code_any (nm f d : Tk) (hf : NumT f) (hd : NumT d) (m1 : Int) (m2 : Bs) (Av : Option Addr) (nv cv : Nat) (rows : List Ln) (hnv : nv = rows.length) (dm : Option Tk) (hdm : [.int .i64 m1, sv m2] = dmC dm) (hdn : ∀ m, dm = some m → NumT m) (B : Nat) (w : World)
    (hr : RowsR w B B (.slice Av nv cv) rows) (hN : ∀ x ∈ rows, (∀ y ∈ x.a, NumT y) ∧ (∀ y ∈ x.b, NumT y) ∧ x.a.length ≤ 100000 ∧ x.b.length ≤ 100000) (hrl : rows.length ≤ 100000) :
    Calls Tryz.prog 45 #[.agg #[.int .i64 (nm.ps : Int), .string (ss nm.tx), .int .i64 (f.ps : Int), .string (ss f.tx), .int .i64 (d.ps : Int), .string (ss d.tx), .int .i64 m1, .string (ss m2), .slice Av nv cv]] w fun e w' => CodeE w.heap.size (codeD ⟨nm, f, d, rows, dm⟩) e w' ∧ Below w.heap.size w w' := by
  obtain ⟨i0, hi, hz0, hz1, hz2⟩ := info_three (show (Tryz.prog.info? 61).map (fun i => (i.zero, i.size, i.bytes)) = some (some (.slice none 0 0), 1, 24) by kernel_rfl)
  have HII := hideIt hi
  have HI0 := hideIt hz0
  have HI1 := hideIt hz1
  have HI2 := hideIt hz2
  clear hi hz0 hz1 hz2
  have HV := hideIt (fun x (hx : NumT x) W => value_any x hx W)
  have HF := hideIt hf
  have HDD := hideIt hd
  obtain ⟨W0, hW0⟩ : ∃ W, W = (w.alloc (.cells #[.int .i64 (nm.ps : Int), .string (ss nm.tx), .int .i64 (f.ps : Int), .string (ss f.tx), .int .i64 (d.ps : Int), .string (ss d.tx), .int .i64 m1, .string (ss m2), .slice Av nv cv] 80)).alloc (.cells #[.string ⟨#[]⟩, .int .i64 0, .int .i64 0, .slice none 0 0, .int .i64 0] 24) := ⟨_, rfl⟩
  have HB0 : Hid (Below w.heap.size w W0) := by rw [hW0]; exact ((Below.refl _ _).alloc (Nat.le_refl _) _).alloc (by simp) _
  have HD0 : Hid (Blk W0 w.heap.size 80 [.int .i64 (nm.ps : Int), .string (ss nm.tx), .int .i64 (f.ps : Int), .string (ss f.tx), .int .i64 (d.ps : Int), .string (ss d.tx), .int .i64 m1, .string (ss m2), .slice Av nv cv]) := by rw [hW0]; exact (Blk.new w 80 [.int .i64 (nm.ps : Int), .string (ss nm.tx), .int .i64 (f.ps : Int), .string (ss f.tx), .int .i64 (d.ps : Int), .string (ss d.tx), .int .i64 m1, .string (ss m2), .slice Av nv cv]).alloc _
  have HR0 : Hid (Blk W0 (w.heap.size + 1) 24 [.string ⟨#[]⟩, .int .i64 0, .int .i64 0, .slice none 0 0, .int .i64 0]) := by
    have := Blk.new (w.alloc (.cells #[.int .i64 (nm.ps : Int), .string (ss nm.tx), .int .i64 (f.ps : Int), .string (ss f.tx), .int .i64 (d.ps : Int), .string (ss d.tx), .int .i64 m1, .string (ss m2), .slice Av nv cv] 80)) 24 [.string ⟨#[]⟩, .int .i64 0, .int .i64 0, .slice none 0 0, .int .i64 0]
    rw [show (w.alloc (.cells #[.int .i64 (nm.ps : Int), .string (ss nm.tx), .int .i64 (f.ps : Int), .string (ss f.tx), .int .i64 (d.ps : Int), .string (ss d.tx), .int .i64 m1, .string (ss m2), .slice Av nv cv] 80)).heap.size = w.heap.size + 1 by simp] at this
    rw [hW0]; exact this
  have HS0 : Hid (W0.heap.size = w.heap.size + 1 + 1) := by
    show W0.heap.size = w.heap.size + 1 + 1
    rw [hW0]; simp
  have HW0 := hideIt hW0
  have HRR := hideIt hr
  have HNN := hideIt hN
  have HNV := hideIt hnv
  have HDM := hideIt hdm
  have HDN := hideIt hdn
  clear hf hd hW0 hr hN hnv hdm hdn
  go_enter Tryz.func45, Tryz.ntmps45
  go_wp2_with fail
  rw [← HW0.out]
  have HDw : Hid (Blk W0.drew w.heap.size 80 [.int .i64 (nm.ps : Int), .string (ss nm.tx), .int .i64 (f.ps : Int), .string (ss f.tx), .int .i64 (d.ps : Int), .string (ss d.tx), .int .i64 m1, .string (ss m2), .slice Av nv cv]) := HD0.out
  refine loads_begin_n 12 [(9, (fun W => Blk W w.heap.size 80 [.int .i64 (nm.ps : Int), .string (ss nm.tx), .int .i64 (f.ps : Int), .string (ss f.tx), .int .i64 (d.ps : Int), .string (ss d.tx), .int .i64 m1, .string (ss m2), .slice Av nv cv])), (5, (fun W => Blk W w.heap.size 80 [.int .i64 (nm.ps : Int), .string (ss nm.tx), .int .i64 (f.ps : Int), .string (ss f.tx), .int .i64 (d.ps : Int), .string (ss d.tx), .int .i64 m1, .string (ss m2), .slice Av nv cv])), (8, (fun W => Blk W w.heap.size 80 [.int .i64 (nm.ps : Int), .string (ss nm.tx), .int .i64 (f.ps : Int), .string (ss f.tx), .int .i64 (d.ps : Int), .string (ss d.tx), .int .i64 m1, .string (ss m2), .slice Av nv cv]))] rfl (by kernel_rfl) ?_
  refine wpAnyL_move (oi := ⟨some 11, _, _, _, _, _⟩) 0 ?_ rfl (by kernel_rfl) (by kernel_rfl) (by kernel_rfl) (by kernel_rfl) (fun _ _ _ h => h) (by kernel_rfl) ?_ (Hooks.add HDw.out (Hooks.add HDw.out (Hooks.add HDw.out (Hooks.nil _ _)))) ?_
  rotate_left
  · intro W'; go_simp; first | done | with_reducible rfl
  try simp only [Act.put]
  try simp only [List.setIfInBounds_toArray]
  try simp only [List.set_cons_succ]
  try simp only [List.set_cons_zero]
  refine wpAnyL_move (oi := ⟨some 12, _, _, _, _, _⟩) 1 ?_ rfl (by kernel_rfl) (by kernel_rfl) (by kernel_rfl) (by kernel_rfl) (fun _ _ _ h => h) (by kernel_rfl) ?_ (Hooks.add HDw.out (Hooks.add HDw.out (Hooks.add HDw.out (Hooks.nil _ _)))) ?_
  rotate_left
  · intro W'; go_simp; first | done | with_reducible rfl
  try simp only [Act.put]
  try simp only [List.setIfInBounds_toArray]
  try simp only [List.set_cons_succ]
  try simp only [List.set_cons_zero]
  refine wpAnyL_take (oi := ⟨some 13, _, _, _, _, _⟩) 2 9 (.string (ss nm.tx)) _ rfl (by kernel_rfl) (by kernel_rfl) (by kernel_rfl) (by kernel_rfl) (by kernel_rfl) (by kernel_rfl) (.head _) (fun _ _ _ h => h) (by kernel_rfl) (fun W' hW' => by have hW' : Blk W' w.heap.size 80 [.int .i64 (nm.ps : Int), .string (ss nm.tx), .int .i64 (f.ps : Int), .string (ss f.tx), .int .i64 (d.ps : Int), .string (ss d.tx), .int .i64 m1, .string (ss m2), .slice Av nv cv] := hW'; have q := hW'.cell 1; go_simp) (Hooks.add HDw.out (Hooks.add HDw.out (Hooks.add HDw.out (Hooks.nil _ _)))) ?_
  try simp only [Act.put]
  try simp only [List.setIfInBounds_toArray]
  try simp only [List.set_cons_succ]
  try simp only [List.set_cons_zero]
  refine wpAnyL_move (oi := ⟨some 14, _, _, _, _, _⟩) 3 ?_ rfl (by kernel_rfl) (by kernel_rfl) (by kernel_rfl) (by kernel_rfl) (fun _ _ _ h => h) (by kernel_rfl) ?_ (Hooks.add HDw.out (Hooks.add HDw.out (Hooks.add HDw.out (Hooks.nil _ _)))) ?_
  rotate_left
  · intro W'; go_simp; first | done | with_reducible rfl
  try simp only [Act.put]
  try simp only [List.setIfInBounds_toArray]
  try simp only [List.set_cons_succ]
  try simp only [List.set_cons_zero]
  refine wpAnyL_take (oi := ⟨some 15, _, _, _, _, _⟩) 4 5 (.agg #[.int .i64 (f.ps : Int), .string (ss f.tx)]) _ rfl (by kernel_rfl) (by kernel_rfl) (by kernel_rfl) (by kernel_rfl) (by kernel_rfl) (by kernel_rfl) (.tail _ (.head _)) (fun _ _ _ h => h) (by kernel_rfl) (fun W' hW' => by have hW' : Blk W' w.heap.size 80 [.int .i64 (nm.ps : Int), .string (ss nm.tx), .int .i64 (f.ps : Int), .string (ss f.tx), .int .i64 (d.ps : Int), .string (ss d.tx), .int .i64 m1, .string (ss m2), .slice Av nv cv] := hW'; have q := hW'.cell 2; have q2 := hW'.cell 3; go_simp) (Hooks.add HDw.out (Hooks.add HDw.out (Hooks.add HDw.out (Hooks.nil _ _)))) ?_
  try simp only [Act.put]
  try simp only [List.setIfInBounds_toArray]
  try simp only [List.set_cons_succ]
  try simp only [List.set_cons_zero]
  refine wpAnyL_move (oi := ⟨some 17, _, _, _, _, _⟩) 6 ?_ rfl (by kernel_rfl) (by kernel_rfl) (by kernel_rfl) (by kernel_rfl) (fun _ _ _ h => h) (by kernel_rfl) ?_ (Hooks.add HDw.out (Hooks.add HDw.out (Hooks.add HDw.out (Hooks.nil _ _)))) ?_
  rotate_left
  · intro W'; go_simp; first | done | with_reducible rfl
  try simp only [Act.put]
  try simp only [List.setIfInBounds_toArray]
  try simp only [List.set_cons_succ]
  try simp only [List.set_cons_zero]
  refine wpAnyL_take (oi := ⟨some 18, _, _, _, _, _⟩) 7 8 (.agg #[.int .i64 (d.ps : Int), .string (ss d.tx)]) _ rfl (by kernel_rfl) (by kernel_rfl) (by kernel_rfl) (by kernel_rfl) (by kernel_rfl) (by kernel_rfl) (.tail _ (.tail _ (.head _))) (fun _ _ _ h => h) (by kernel_rfl) (fun W' hW' => by have hW' : Blk W' w.heap.size 80 [.int .i64 (nm.ps : Int), .string (ss nm.tx), .int .i64 (f.ps : Int), .string (ss f.tx), .int .i64 (d.ps : Int), .string (ss d.tx), .int .i64 m1, .string (ss m2), .slice Av nv cv] := hW'; have q := hW'.cell 4; have q2 := hW'.cell 5; go_simp) (Hooks.add HDw.out (Hooks.add HDw.out (Hooks.add HDw.out (Hooks.nil _ _)))) ?_
  try simp only [Act.put]
  try simp only [List.setIfInBounds_toArray]
  try simp only [List.set_cons_succ]
  try simp only [List.set_cons_zero]
  refine fork_code 16 19 20 5 (.int .i64 (f.n : Int)) (.int .i64 (d.n : Int)) (.agg #[.string (ss nm.tx), .int .i64 (f.n : Int), .int .i64 (d.n : Int), .slice none 0 0, .int .i64 0]) (fun c W => Below w.heap.size w W ∧ Blk W w.heap.size 80 [.int .i64 (nm.ps : Int), .string (ss nm.tx), .int .i64 (f.ps : Int), .string (ss f.tx), .int .i64 (d.ps : Int), .string (ss d.tx), .int .i64 m1, .string (ss m2), .slice Av nv cv] ∧ Blk W (w.heap.size + 1) 24 [.string ⟨#[]⟩, .int .i64 0, .int .i64 0, .slice none 0 0, .int .i64 0] ∧ Blk W c 24 [.string (ss nm.tx), .int .i64 (f.n : Int), .int .i64 (d.n : Int), .slice none 0 0, .int .i64 0] ∧ w.heap.size + 1 < c) (fun Q' hQ' => ?_) (fun cb W hW => ?_)
  · have HQQ := hideIt hQ'
    clear hQ'
    have HX0 := hideIt HB0.out.drew
    have HDA := HDw
    have HRA : Hid (Blk W0.drew (w.heap.size + 1) 24 [.string ⟨#[]⟩, .int .i64 0, .int .i64 0, .slice none 0 0, .int .i64 0]) := HR0.out
    refine wpAnyL_two 5 10 (by kernel_rfl) rfl rfl (fun K hK => ?_) (fun K hK => ?_)
    · go_wp2_with (go_at_call 68; refine (HV.out f HF.out _).mono ?_; rintro e wa1 ⟨rfl, hb⟩; have HXa2 := hideIt (HX0.out.trans (hb.mono HX0.out.size)); have HDa3 := hideIt (HDA.out.kept hb HDA.out.lt); have HRa4 := hideIt (HRA.out.kept hb HRA.out.lt); clear hb)
      refine hK _ _ (Hooks.add HDa3.out (Hooks.add HDa3.out (Hooks.add HDa3.out (Hooks.nil _ _)))) ?_
      clear hK K
      refine wpAnyL_two 8 10 (by kernel_rfl) rfl rfl (fun K hK => ?_) (fun K hK => ?_)
      · go_wp2_with (go_at_call 68; refine (HV.out d HDD.out _).mono ?_; rintro e wa6 ⟨rfl, hb⟩; have HXa7 := hideIt (HXa2.out.trans (hb.mono HXa2.out.size)); have HDa8 := hideIt (HDa3.out.kept hb HDa3.out.lt); have HRa9 := hideIt (HRa4.out.kept hb HRa4.out.lt); clear hb)
        refine hK _ _ (Hooks.add HDa8.out (Hooks.add HDa8.out (Hooks.add HDa8.out (Hooks.nil _ _)))) ?_
        clear hK K
        refine wpAnyL_two 9 10 (by kernel_rfl) rfl rfl (fun K hK => ?_) (fun K hK => ?_)
        · go_wp2_with fail
          refine hK _ _ (Hooks.add HDa8.out (Hooks.add HDa8.out (Hooks.add HDa8.out (Hooks.nil _ _)))) ?_
          clear hK K
          refine wpAnyL_one 10 (by kernel_rfl) rfl (fun K hK => ?_)
          go_wp2_with fail
          have HXb11 := hideIt (HXa7.out.alloc HXa7.out.size (.cells #[.string ⟨#[]⟩, .int .i64 0, .int .i64 0, .slice none 0 0, .int .i64 0] 24))
          have HDb12 := hideIt (HDa8.out.alloc (.cells #[.string ⟨#[]⟩, .int .i64 0, .int .i64 0, .slice none 0 0, .int .i64 0] 24))
          have HRb13 := hideIt (HRa9.out.alloc (.cells #[.string ⟨#[]⟩, .int .i64 0, .int .i64 0, .slice none 0 0, .int .i64 0] 24))
          have HCb14 := hideIt (Blk.new wa6 24 [.string ⟨#[]⟩, .int .i64 0, .int .i64 0, .slice none 0 0, .int .i64 0])
          have HCb14n := hideIt (HRa9.out.lt)
          refine hK _ _ (Hooks.add HDb12.out (Hooks.add HDb12.out (Hooks.add HDb12.out (Hooks.nil _ _)))) ?_
          clear hK K
          refine loads_tail 11 (by kernel_rfl) (by kernel_rfl) (by kernel_rfl) (by kernel_rfl) ?_
          simp only [List.drop_succ_cons, List.drop_zero]
          have u0 := HCb14.out.cell 0
          have u1 := HCb14.out.cell 1
          have u2 := HCb14.out.cell 2
          have u3 := HCb14.out.cell 3
          have u4 := HCb14.out.cell 4
          have z0 := HCb14.out.free 0
          have z1 := HCb14.out.free 1
          have z2 := HCb14.out.free 2
          have z3 := HCb14.out.free 3
          have z4 := HCb14.out.free 4
          go_wp2_with fail
          have hlt : w.heap.size + 1 < _ := HCb14n.out
          have hh := HQQ.out _ _ ⟨HXa7.out.alloc HXa7.out.size (.cells #[.string (ss nm.tx), .int .i64 (f.n : Int), .int .i64 (d.n : Int), .slice none 0 0, .int .i64 0] 24), HDa8.out.alloc (.cells #[.string (ss nm.tx), .int .i64 (f.n : Int), .int .i64 (d.n : Int), .slice none 0 0, .int .i64 0] 24), HRa9.out.alloc (.cells #[.string (ss nm.tx), .int .i64 (f.n : Int), .int .i64 (d.n : Int), .slice none 0 0, .int .i64 0] 24), Blk.new wa6 24 [.string (ss nm.tx), .int .i64 (f.n : Int), .int .i64 (d.n : Int), .slice none 0 0, .int .i64 0], hlt⟩
          exact hh
        · go_wp2_with fail
          have HXb15 := hideIt (HXa7.out.alloc HXa7.out.size (.cells #[.string ⟨#[]⟩, .int .i64 0, .int .i64 0, .slice none 0 0, .int .i64 0] 24))
          have HDb16 := hideIt (HDa8.out.alloc (.cells #[.string ⟨#[]⟩, .int .i64 0, .int .i64 0, .slice none 0 0, .int .i64 0] 24))
          have HRb17 := hideIt (HRa9.out.alloc (.cells #[.string ⟨#[]⟩, .int .i64 0, .int .i64 0, .slice none 0 0, .int .i64 0] 24))
          have HCb18 := hideIt (Blk.new wa6 24 [.string ⟨#[]⟩, .int .i64 0, .int .i64 0, .slice none 0 0, .int .i64 0])
          have HCb18n := hideIt (HRa9.out.lt)
          refine hK _ _ (Hooks.add HDb16.out (Hooks.add HDb16.out (Hooks.add HDb16.out (Hooks.nil _ _)))) ?_
          clear hK K
          refine wpAnyL_one 9 (by kernel_rfl) rfl (fun K hK => ?_)
          go_wp2_with fail
          refine hK _ _ (Hooks.add HDb16.out (Hooks.add HDb16.out (Hooks.add HDb16.out (Hooks.nil _ _)))) ?_
          clear hK K
          refine loads_tail 11 (by kernel_rfl) (by kernel_rfl) (by kernel_rfl) (by kernel_rfl) ?_
          simp only [List.drop_succ_cons, List.drop_zero]
          have u0 := HCb18.out.cell 0
          have u1 := HCb18.out.cell 1
          have u2 := HCb18.out.cell 2
          have u3 := HCb18.out.cell 3
          have u4 := HCb18.out.cell 4
          have z0 := HCb18.out.free 0
          have z1 := HCb18.out.free 1
          have z2 := HCb18.out.free 2
          have z3 := HCb18.out.free 3
          have z4 := HCb18.out.free 4
          go_wp2_with fail
          have hlt : w.heap.size + 1 < _ := HCb18n.out
          have hh := HQQ.out _ _ ⟨HXa7.out.alloc HXa7.out.size (.cells #[.string (ss nm.tx), .int .i64 (f.n : Int), .int .i64 (d.n : Int), .slice none 0 0, .int .i64 0] 24), HDa8.out.alloc (.cells #[.string (ss nm.tx), .int .i64 (f.n : Int), .int .i64 (d.n : Int), .slice none 0 0, .int .i64 0] 24), HRa9.out.alloc (.cells #[.string (ss nm.tx), .int .i64 (f.n : Int), .int .i64 (d.n : Int), .slice none 0 0, .int .i64 0] 24), Blk.new wa6 24 [.string (ss nm.tx), .int .i64 (f.n : Int), .int .i64 (d.n : Int), .slice none 0 0, .int .i64 0], hlt⟩
          exact hh
      · go_wp2_with fail
        have HXb19 := hideIt (HXa2.out.alloc HXa2.out.size (.cells #[.string ⟨#[]⟩, .int .i64 0, .int .i64 0, .slice none 0 0, .int .i64 0] 24))
        have HDb20 := hideIt (HDa3.out.alloc (.cells #[.string ⟨#[]⟩, .int .i64 0, .int .i64 0, .slice none 0 0, .int .i64 0] 24))
        have HRb21 := hideIt (HRa4.out.alloc (.cells #[.string ⟨#[]⟩, .int .i64 0, .int .i64 0, .slice none 0 0, .int .i64 0] 24))
        have HCb22 := hideIt (Blk.new wa1 24 [.string ⟨#[]⟩, .int .i64 0, .int .i64 0, .slice none 0 0, .int .i64 0])
        have HCb22n := hideIt (HRa4.out.lt)
        refine hK _ _ (Hooks.add HDb20.out (Hooks.add HDb20.out (Hooks.add HDb20.out (Hooks.nil _ _)))) ?_
        clear hK K
        refine wpAnyL_one 8 (by kernel_rfl) rfl (fun K hK => ?_)
        go_wp2_with (go_at_call 68; refine (HV.out d HDD.out _).mono ?_; rintro e wa23 ⟨rfl, hb⟩; have HXa24 := hideIt (HXb19.out.trans (hb.mono HXb19.out.size)); have HDa25 := hideIt (HDb20.out.kept hb HDb20.out.lt); have HRa26 := hideIt (HRb21.out.kept hb HRb21.out.lt); have HCa27 := hideIt (HCb22.out.kept hb HCb22.out.lt); clear hb)
        refine hK _ _ (Hooks.add HDa25.out (Hooks.add HDa25.out (Hooks.add HDa25.out (Hooks.nil _ _)))) ?_
        clear hK K
        refine wpAnyL_one 9 (by kernel_rfl) rfl (fun K hK => ?_)
        go_wp2_with fail
        refine hK _ _ (Hooks.add HDa25.out (Hooks.add HDa25.out (Hooks.add HDa25.out (Hooks.nil _ _)))) ?_
        clear hK K
        refine loads_tail 11 (by kernel_rfl) (by kernel_rfl) (by kernel_rfl) (by kernel_rfl) ?_
        simp only [List.drop_succ_cons, List.drop_zero]
        have u0 := HCa27.out.cell 0
        have u1 := HCa27.out.cell 1
        have u2 := HCa27.out.cell 2
        have u3 := HCa27.out.cell 3
        have u4 := HCa27.out.cell 4
        have z0 := HCa27.out.free 0
        have z1 := HCa27.out.free 1
        have z2 := HCa27.out.free 2
        have z3 := HCa27.out.free 3
        have z4 := HCa27.out.free 4
        go_wp2_with fail
        have hlt : w.heap.size + 1 < _ := HCb22n.out
        have hh := HQQ.out _ _ ⟨?_, ?_, ?_, (((((HCa27.out.store 0 (.string (ss nm.tx))).store 1 (.int .i64 (f.n : Int))).store 2 (.int .i64 (d.n : Int))).store 3 (.slice none 0 0)).store 4 (.int .i64 0)), hlt⟩
        · exact hh
        · exact below_set (below_set (below_set (below_set (below_set HXa24.out (by omega) _ _) (by omega) _ _) (by omega) _ _) (by omega) _ _) (by omega) _ _
        · exact (((((HDa25.out.store_other (by omega)).store_other (by omega)).store_other (by omega)).store_other (by omega)).store_other (by omega))
        · exact (((((HRa26.out.store_other (by omega)).store_other (by omega)).store_other (by omega)).store_other (by omega)).store_other (by omega))
    · go_wp2_with fail
      have HXb28 := hideIt (HX0.out.alloc HX0.out.size (.cells #[.string ⟨#[]⟩, .int .i64 0, .int .i64 0, .slice none 0 0, .int .i64 0] 24))
      have HDb29 := hideIt (HDA.out.alloc (.cells #[.string ⟨#[]⟩, .int .i64 0, .int .i64 0, .slice none 0 0, .int .i64 0] 24))
      have HRb30 := hideIt (HRA.out.alloc (.cells #[.string ⟨#[]⟩, .int .i64 0, .int .i64 0, .slice none 0 0, .int .i64 0] 24))
      have HCb31 : Hid (Blk (W0.drew.alloc (.cells #[.string ⟨#[]⟩, .int .i64 0, .int .i64 0, .slice none 0 0, .int .i64 0] 24)) W0.heap.size 24 [.string ⟨#[]⟩, .int .i64 0, .int .i64 0, .slice none 0 0, .int .i64 0]) := Blk.new W0.drew 24 [.string ⟨#[]⟩, .int .i64 0, .int .i64 0, .slice none 0 0, .int .i64 0]
      have HCb31n : Hid (w.heap.size + 1 < W0.heap.size) := HRA.out.lt
      refine hK _ _ (Hooks.add HDb29.out (Hooks.add HDb29.out (Hooks.add HDb29.out (Hooks.nil _ _)))) ?_
      clear hK K
      refine wpAnyL_one 5 (by kernel_rfl) rfl (fun K hK => ?_)
      go_wp2_with (go_at_call 68; refine (HV.out f HF.out _).mono ?_; rintro e wa32 ⟨rfl, hb⟩; have HXa33 := hideIt (HXb28.out.trans (hb.mono HXb28.out.size)); have HDa34 := hideIt (HDb29.out.kept hb HDb29.out.lt); have HRa35 := hideIt (HRb30.out.kept hb HRb30.out.lt); have HCa36 := hideIt (HCb31.out.kept hb HCb31.out.lt); clear hb)
      refine hK _ _ (Hooks.add HDa34.out (Hooks.add HDa34.out (Hooks.add HDa34.out (Hooks.nil _ _)))) ?_
      clear hK K
      refine wpAnyL_one 8 (by kernel_rfl) rfl (fun K hK => ?_)
      go_wp2_with (go_at_call 68; refine (HV.out d HDD.out _).mono ?_; rintro e wa37 ⟨rfl, hb⟩; have HXa38 := hideIt (HXa33.out.trans (hb.mono HXa33.out.size)); have HDa39 := hideIt (HDa34.out.kept hb HDa34.out.lt); have HRa40 := hideIt (HRa35.out.kept hb HRa35.out.lt); have HCa41 := hideIt (HCa36.out.kept hb HCa36.out.lt); clear hb)
      refine hK _ _ (Hooks.add HDa39.out (Hooks.add HDa39.out (Hooks.add HDa39.out (Hooks.nil _ _)))) ?_
      clear hK K
      refine wpAnyL_one 9 (by kernel_rfl) rfl (fun K hK => ?_)
      go_wp2_with fail
      refine hK _ _ (Hooks.add HDa39.out (Hooks.add HDa39.out (Hooks.add HDa39.out (Hooks.nil _ _)))) ?_
      clear hK K
      refine loads_tail 11 (by kernel_rfl) (by kernel_rfl) (by kernel_rfl) (by kernel_rfl) ?_
      simp only [List.drop_succ_cons, List.drop_zero]
      have u0 := HCa41.out.cell 0
      have u1 := HCa41.out.cell 1
      have u2 := HCa41.out.cell 2
      have u3 := HCa41.out.cell 3
      have u4 := HCa41.out.cell 4
      have z0 := HCa41.out.free 0
      have z1 := HCa41.out.free 1
      have z2 := HCa41.out.free 2
      have z3 := HCa41.out.free 3
      have z4 := HCa41.out.free 4
      go_wp2_with fail
      have hlt : w.heap.size + 1 < _ := HCb31n.out
      have hh := HQQ.out _ _ ⟨?_, ?_, ?_, (((((HCa41.out.store 0 (.string (ss nm.tx))).store 1 (.int .i64 (f.n : Int))).store 2 (.int .i64 (d.n : Int))).store 3 (.slice none 0 0)).store 4 (.int .i64 0)), hlt⟩
      · exact hh
      · exact below_set (below_set (below_set (below_set (below_set HXa38.out (by omega) _ _) (by omega) _ _) (by omega) _ _) (by omega) _ _) (by omega) _ _
      · exact (((((HDa39.out.store_other (by omega)).store_other (by omega)).store_other (by omega)).store_other (by omega)).store_other (by omega))
      · exact (((((HRa40.out.store_other (by omega)).store_other (by omega)).store_other (by omega)).store_other (by omega)).store_other (by omega))
  · obtain ⟨hX, hD, hR, hC, hlt⟩ := hW
    try simp only [Act.put]
    try simp only [List.setIfInBounds_toArray]
    try simp only [List.set_cons_succ]
    try simp only [List.set_cons_zero]
    have r0 := hR.cell 0
    have r1 := hR.cell 1
    have r2 := hR.cell 2
    have r3 := hR.cell 3
    have r4 := hR.cell 4
    have z0 := hR.free 0
    have z1 := hR.free 1
    have z2 := hR.free 2
    have z3 := hR.free 3
    have z4 := hR.free 4
    have d0 := hD.cell 0
    have d2 := hD.cell 2
    have d4 := hD.cell 4
    have d8 := hD.cell 8
    have e0 := hC.cell 0
    have e1 := hC.cell 1
    have e2 := hC.cell 2
    have HX := hideIt hX
    have HD := hideIt hD
    have HR := hideIt hR
    have HC := hideIt hC
    have hln := len_c nm.tx
    clear hX hD hR hC HDw HD0 HR0 HS0 HB0 HW0
    by_cases hnl : 12 < nm.tx.length
    · have hgi : (nm.tx.length : Int) > 12 := by omega
      have HP : Hid (codeD ⟨nm, f, d, rows, dm⟩ = (cd0, nm.ps, 2)) := by
        show codeD _ = _
        unfold codeD
        rw [if_pos hnl]
      clear hnl
      go_wp2_with fail
      go_region
      go_wp2_with fail
      have hz := zero_put (B := w.heap.size) HR.out (Nat.le_succ _) (.string ⟨#[]⟩) (.int .i64 0) (.int .i64 0) (.slice none 0 0) (.int .i64 0)
      rw [HP.out]
      exact bodyPost_ret (res_code rfl _ _ (w.heap.size + 1) _ _ _ rfl (blk_drew hz.1) Tryz.underlying24 rfl icd) rfl ⟨.inr ⟨two_ne, rfl⟩, (HX.out.trans hz.2).drew⟩
    · have hgi : ¬ (nm.tx.length : Int) > 12 := by omega
      have HNL := hideIt hnl
      have HFI := hideIt (fun W => isField_any (f.n : Int) W)
      cases hfb : fieldB (f.n : Int) with
      | false =>
        rw [hfb] at HFI
        have HP : Hid (codeD ⟨nm, f, d, rows, dm⟩ = (cd0, f.ps, 1)) := by
          show codeD _ = _
          unfold codeD
          rw [if_neg hnl]
          dsimp only
          rw [if_pos hfb]
        clear hnl hfb
        go_wp2_with (go_at_call 34; refine (HFI.out _).mono ?_; rintro e w' ⟨rfl, rfl⟩)
        go_region
        go_wp2_with fail
        have hz := zero_put (B := w.heap.size) HR.out (Nat.le_succ _) (.string ⟨#[]⟩) (.int .i64 0) (.int .i64 0) (.slice none 0 0) (.int .i64 0)
        rw [HP.out]
        exact bodyPost_ret (res_code rfl _ _ (w.heap.size + 1) _ _ _ rfl (blk_drew hz.1) Tryz.underlying24 rfl icd) rfl ⟨.inr ⟨one_ne, rfl⟩, (HX.out.trans hz.2).drew⟩
      | true =>
        rw [hfb] at HFI
        have HFB := hideIt hfb
        have HDI := hideIt (fun W => isData_any (d.n : Int) W)
        cases hdb : dataB (d.n : Int) with
        | false =>
          rw [hdb] at HDI
          have HP : Hid (codeD ⟨nm, f, d, rows, dm⟩ = (cd0, d.ps, 1)) := by
            show codeD _ = _
            unfold codeD
            rw [if_neg hnl]
            dsimp only
            rw [if_neg (by rw [hfb]; simp), if_pos hdb]
          clear hnl hfb hdb
          go_wp2_with (first
            | (go_at_call 34; refine (HFI.out _).mono ?_; rintro e w' ⟨rfl, rfl⟩)
            | (go_at_call 35; refine (HDI.out _).mono ?_; rintro e w' ⟨rfl, rfl⟩))
          go_region
          go_wp2_with fail
          have hz := zero_put (B := w.heap.size) HR.out (Nat.le_succ _) (.string ⟨#[]⟩) (.int .i64 0) (.int .i64 0) (.slice none 0 0) (.int .i64 0)
          rw [HP.out]
          exact bodyPost_ret (res_code rfl _ _ (w.heap.size + 1) _ _ _ rfl (blk_drew hz.1) Tryz.underlying24 rfl icd) rfl ⟨.inr ⟨one_ne, rfl⟩, (HX.out.trans hz.2).drew⟩
        | true =>
          rw [hdb] at HDI
          have hf8 : (f.n : Int) = 8 ∨ (f.n : Int) = 16 := of_decide_eq_true hfb
          have hd8 : 1 ≤ (d.n : Int) ∧ (d.n : Int) ≤ 31 := of_decide_eq_true hdb
          have HF8 := hideIt hf8
          have hd1 : 1 ≤ d.n := by omega
          have hd2 : d.n ≤ 31 := by omega
          have HCD : Hid (codeD ⟨nm, f, d, rows, dm⟩ = if (rowsD f.n d.n rows []).2.2 ≠ 0 then (cd0, (rowsD f.n d.n rows []).2.1, (rowsD f.n d.n rows []).2.2) else domD nm.tx f.n d.n (rowsD f.n d.n rows []).1 dm) := by
            show codeD _ = _
            unfold codeD
            rw [if_neg hnl]
            dsimp only
            rw [if_neg (by rw [hfb]; simp), if_neg (by rw [hdb]; simp)]
          clear hnl hfb hdb hf8 hd8 hgi hln r0 r1 r2 r3 r4 z0 z1 z2 z3 z4 d0 d2 d4
          have hgi : ¬ (nm.tx.length : Int) > 12 := by have := HNL.out; omega
          have hln := len_c nm.tx
          go_wp2_with (first
            | (go_at_call 34; refine (HFI.out _).mono ?_; rintro e w' ⟨rfl, rfl⟩)
            | (go_at_call 35; refine (HDI.out _).mono ?_; rintro e w' ⟨rfl, rfl⟩))
          clear d8 e0 e1 e2 hln hgi
          obtain ⟨n, hn⟩ : ∃ n, n = rows.length := ⟨_, rfl⟩
          have hnn : nv = n := by rw [hn]; exact HNV.out
          subst hnn
          have HN := hideIt hn
          have hnl : nv ≤ 100000 := by omega
          clear hn hrl
          go_loopg [51] nv (fun gk s51 wr => ∃ (i : Nat) (out : List (List Int)) (A : Option Addr) (c : Nat), i + gk = nv ∧ s51 = .int .i64 (i : Int) ∧ Aside (rowsD f.n d.n rows [] = rowsD f.n d.n (rows.drop i) out ∧ d.n + out.length ≤ 32 ∧ Below w.heap.size w wr ∧ Blk wr w.heap.size 80 [.int .i64 (nm.ps : Int), .string (ss nm.tx), .int .i64 (f.ps : Int), .string (ss f.tx), .int .i64 (d.ps : Int), .string (ss d.tx), .int .i64 m1, .string (ss m2), .slice Av nv cv] ∧ Blk wr (w.heap.size + 1) 24 [.string ⟨#[]⟩, .int .i64 0, .int .i64 0, .slice none 0 0, .int .i64 0] ∧ Blk wr cb 24 [.string (ss nm.tx), .int .i64 (f.n : Int), .int .i64 (d.n : Int), .slice A out.length c, .int .i64 0] ∧ PR wr w.heap.size (.slice A out.length c) out))
          case atStart => exact ⟨0, [], none, 0, by omega, rfl, rfl, by simp; omega, HX.out, HD.out, HR.out, HC.out, [], World.ownsRow_nil _ _ _ _, trivial⟩
          case round =>
            obtain ⟨i, out, A, c, hi, rfl, HI⟩ := hrel
            by_cases hlt2 : i < nv
            · have hir : i < rows.length := by rw [← HN.out]; exact hlt2
              have hrr := HRR.out
              rw [HN.out] at hrr
              obtain ⟨g, gc, kp, ktx, A1, n1, c1, A2, n2, c2, hA, hg, q0, q1, q2, q3, hrow, hkp⟩ := RowsR.row hrr hir
              have hA : Av = some ⟨g, 0, none⟩ := by injection hA
              subst hA
              have t0 := (HI.out.2.2.1.cell (p := ⟨g, i * 4, none⟩) hg).trans q0
              have t1 := (HI.out.2.2.1.cell (p := ⟨g, i * 4 + 1, none⟩) hg).trans q1
              have t2 := (HI.out.2.2.1.cell (p := ⟨g, i * 4 + 2, none⟩) hg).trans q2
              have t3 := (HI.out.2.2.1.cell (p := ⟨g, i * 4 + 3, none⟩) hg).trans q3
              have HDR := hideIt (List.drop_eq_getElem_cons hir)
              have HNX := hideIt (HNN.out _ (List.getElem_mem hir))
              have HROW := hideIt hrow
              have HKP := hideIt hkp
              have hinc := inc_c 3 i (by omega)
              have hji : (i : Int) < (nv : Int) := by omega
              generalize rows[i] = x at *
              clear q0 q1 q2 q3 hrow hkp hir hrr hg
              have hol := HI.out.2.1
              have h0 : wr.heap.size = wr.heap.size := rfl
              obtain ⟨wb, hwb⟩ : ∃ W, W = wr.alloc (.cells #[.int .i64 (kp : Int), .string (ss ktx), .slice A1 n1 c1, .slice A2 n2 c2] 107) := ⟨_, rfl⟩
              have HXb : Hid (Below w.heap.size w wb) := by rw [hwb]; exact HI.out.2.2.1.alloc HI.out.2.2.1.size _
              have HDb : Hid (Blk wb w.heap.size 80 [.int .i64 (nm.ps : Int), .string (ss nm.tx), .int .i64 (f.ps : Int), .string (ss f.tx), .int .i64 (d.ps : Int), .string (ss d.tx), .int .i64 m1, .string (ss m2), .slice (some ⟨g, 0, none⟩) nv cv]) := by rw [hwb]; exact HI.out.2.2.2.1.alloc _
              have HRb : Hid (Blk wb (w.heap.size + 1) 24 [.string ⟨#[]⟩, .int .i64 0, .int .i64 0, .slice none 0 0, .int .i64 0]) := by rw [hwb]; exact HI.out.2.2.2.2.1.alloc _
              have HCb : Hid (Blk wb cb 24 [.string (ss nm.tx), .int .i64 (f.n : Int), .int .i64 (d.n : Int), .slice A out.length c, .int .i64 0]) := by rw [hwb]; exact HI.out.2.2.2.2.2.1.alloc _
              have HLb : Hid (Blk wb wr.heap.size 107 [.int .i64 (kp : Int), .string (ss ktx), .slice A1 n1 c1, .slice A2 n2 c2]) := by rw [hwb]; exact Blk.new wr 107 [.int .i64 (kp : Int), .string (ss ktx), .slice A1 n1 c1, .slice A2 n2 c2]
              have HPb : Hid (PR wb w.heap.size (.slice A out.length c) out) := by rw [hwb]; exact HI.out.2.2.2.2.2.2.alloc _
              have hcb := HCb.out.cell
              have e0 : wb.cell? ⟨cb, 0, none⟩ = _ := hcb 0
              have e1 : wb.cell? ⟨cb, 1, none⟩ = _ := hcb 1
              have e2 : wb.cell? ⟨cb, 2, none⟩ = _ := hcb 2
              have e3 : wb.cell? ⟨cb, 3, none⟩ = _ := hcb 3
              have e4 : wb.cell? ⟨cb, 4, none⟩ = _ := hcb 4
              rw [hwb] at e0 e1 e2 e3 e4
              have HWb := hideIt hwb
              obtain ⟨z, hz⟩ : ∃ z : Int, z = (d.n : Int) + (out.length : Int) := ⟨_, rfl⟩
              have HWI := hideIt (fun W => width_any nm.tx (f.n : Int) (d.n : Int) A out.length c 0 z (by rw [add_cc _ _ _ (by omega) (by omega), hz]) W)
              have hwq := i_eql 3 .i64 z 32
              have HZ := hideIt hz
              clear hwb h0 hcb
              by_cases h32 : d.n + out.length = 32
              · rw [decide_eq_true (by omega)] at hwq
                clear hz
                have HP : Hid (codeD ⟨nm, f, d, rows, dm⟩ = (cd0, kp, 2)) := by
                  show codeD _ = _
                  have hq : rowsD (f.n : Int) (d.n : Int) (x :: rows.drop (i + 1)) out = ([], x.key.ps, 2) := by
                    rw [rowsD]
                    exact if_pos (show (32 : Int) ≤ (d.n : Int) + (out.length : Int) by omega)
                  rw [HCD.out, HI.out.1, HDR.out, hq, HKP.out]
                  rfl
                have HN1 := hideIt (show wr.heap.size ≠ w.heap.size + 1 by have := HI.out.2.2.2.2.1.lt; omega)
                clear h32
                go_wp2_with (go_at_call 36; rw [← HWb.out]; refine (HWI.out _).mono ?_; rintro e w1 ⟨rfl, hb⟩; have hx1 := HXb.out.trans (hb.mono HXb.out.size); have hr1 := HRb.out.kept hb HRb.out.lt; have hl1 := HLb.out.kept hb HLb.out.lt; have r0 := hr1.cell 0; have r1 := hr1.cell 1; have r2 := hr1.cell 2; have r3 := hr1.cell 3; have r4 := hr1.cell 4; have z0 := hr1.free 0; have z1 := hr1.free 1; have z2 := hr1.free 2; have z3 := hr1.free 3; have z4 := hr1.free 4; have l0 := hl1.cell 0; have l0s : (((((w1.setCell ⟨w.heap.size + 1, 0, none⟩ (.string ⟨#[]⟩)).setCell ⟨w.heap.size + 1, 1, none⟩ (.int .i64 0)).setCell ⟨w.heap.size + 1, 2, none⟩ (.int .i64 0)).setCell ⟨w.heap.size + 1, 3, none⟩ (.slice none 0 0)).setCell ⟨w.heap.size + 1, 4, none⟩ (.int .i64 0)).drew.cell? ⟨wr.heap.size, 0, none⟩ = some (.int .i64 (kp : Int)) := (cell_drew _ _).trans ((((((hl1.store_other HN1.out).store_other HN1.out).store_other HN1.out).store_other HN1.out).store_other HN1.out).cell 0); have HX1 := hideIt hx1; have HR1 := hideIt hr1; clear hb hx1 hr1 hl1)
                go_region
                go_wp2_with fail
                have hz := zero_put (B := w.heap.size) HR1.out (Nat.le_succ _) (.string ⟨#[]⟩) (.int .i64 0) (.int .i64 0) (.slice none 0 0) (.int .i64 0)
                rw [HP.out]
                exact bodyPost_ret (res_code rfl _ _ (w.heap.size + 1) _ _ _ rfl (blk_drew hz.1) Tryz.underlying24 rfl icd) rfl ⟨.inr ⟨two_ne, rfl⟩, (HX1.out.trans hz.2).drew⟩
              · rw [decide_eq_false (by omega)] at hwq
                have HZ32 := hideIt (show d.n + out.length + 1 ≤ 32 by omega)
                have hrb : rowsD (f.n : Int) (d.n : Int) (x :: rows.drop (i + 1)) out = if (rowB x d.n (topF f.n)).2.2 ≠ 0 then ([], (rowB x d.n (topF f.n)).2.1, (rowB x d.n (topF f.n)).2.2) else rowsD f.n d.n (rows.drop (i + 1)) (out ++ [(rowB x d.n (topF f.n)).1]) := by
                  rw [rowsD]
                  exact if_neg (show ¬ (32 : Int) ≤ (d.n : Int) + (out.length : Int) by omega)
                have HRB := hideIt hrb
                have HCE := hideIt (fun W (hb : Below w.heap.size w W) => cells_any kp ktx (.slice A1 n1 c1) (.slice A2 n2 c2) (f.n : Int) HF8.out d.n hd1 hd2 x HNX.out.2.2.1 HNX.out.2.2.2 B W (HROW.out.kept hb) HNX.out.1 HNX.out.2.1)
                obtain ⟨rb, hrb2⟩ : ∃ rb, rb = rowB x (d.n : Int) (topF (f.n : Int)) := ⟨_, rfl⟩
                rw [← hrb2] at HRB HCE
                clear hz h32 hrb hrb2
                go_wp2_with (first
                  | (go_at_call 69; refine (HCE.out _ HX1.out).mono ?_; rintro e w2 ⟨⟨h0, A3, c3, rfl, ho⟩ | ⟨h0, rfl⟩, hb⟩ <;> have hx2 := HX1.out.trans (hb.mono HX1.out.size) <;> have hr2 := HR1.out.kept hb HR1.out.lt <;> have hc2 := HC1.out.kept hb HC1.out.lt <;> have HD2 := hideIt (HD1.out.kept hb HD1.out.lt) <;> have HP2 := hideIt (HP1.out.kept hb) <;> have r0 := hr2.cell 0 <;> have r1 := hr2.cell 1 <;> have r2 := hr2.cell 2 <;> have r3 := hr2.cell 3 <;> have r4 := hr2.cell 4 <;> have z0 := hr2.free 0 <;> have z1 := hr2.free 1 <;> have z2 := hr2.free 2 <;> have z3 := hr2.free 3 <;> have z4 := hr2.free 4 <;> have e3 := hc2.cell 3 <;> have HX2 := hideIt hx2 <;> have HR2 := hideIt hr2 <;> have HC2 := hideIt hc2 <;> have hne0 := i_neq 25 .i64 rb.2.2 0 <;> have H0 := hideIt h0 <;> clear hx2 hr2 hc2 <;> (first | (have hq := h0; rw [decide_eq_true hq] at hne0; clear hq) | (have hne0 := i_neq 25 .i64 0 0; rw [decide_eq_false (by simp)] at hne0)) <;> clear h0 hb <;> (try (obtain ⟨vs, hown, hall⟩ := HP2.out.alloc (.cells #[.slice A3 rb.1.length c3] 61); have HOWN := hideIt hown; have HALL := hideIt hall; have HIR := hideIt (World.ownsRow.alloc (own_low ho HX1.out.size) (.cells #[.slice A3 rb.1.length c3] 61)); have hw2 := HX2.out.size; clear hown hall)))
                  | ((with_reducible refine at_append ?_); refine wpList_app2 rfl (.tmp 78) (.tmp 80) 22 rfl w.heap.size 61 i0 (.slice none 0 0) 1 24 Tryz.underlying22 HII.out HI0.out HI1.out HI2.out rfl (by decide) (.slice A out.length c) out.length vs rfl HOWN.out _ _ 1 1 [.slice A3 rb.1.length c3] rfl (sl_one w2 _ _) (ones_one rfl) (by unfold maxLen; omega) (by omega) (by simp; omega) ?_; intro v3 w3 ho3 hg3; obtain ⟨A4, c4, rfl, _, _⟩ := own_form ho3; have HO3 := hideIt ho3; have HG3 := hideIt hg3; have hc3 := (HC2.out.alloc (.cells #[.slice A3 rb.1.length c3] 61)).grown hg3 (own_ne HOWN.out (HC2.out.alloc _) (by decide)); have y3 := hc3.cell 3; have yf := hc3.free 3; have HC3 := hideIt hc3; clear ho3 hg3 hc3)
                  | (go_at_call 36; rw [← HWb.out]; refine (HWI.out _).mono ?_; rintro e w1 ⟨rfl, hb⟩; have hx1 := HXb.out.trans (hb.mono HXb.out.size); have hc1 := HCb.out.kept hb HCb.out.lt; have hl1 := HLb.out.kept hb HLb.out.lt; have e1 := hc1.cell 1; have e2 := hc1.cell 2; have l0 := hl1.cell 0; have l1 := hl1.cell 1; have l2 := hl1.cell 2; have l3 := hl1.cell 3; have HX1 := hideIt hx1; have HR1 := hideIt (HRb.out.kept hb HRb.out.lt); have HC1 := hideIt hc1; have HD1 := hideIt (HDb.out.kept hb HDb.out.lt); have HP1 := hideIt (HPb.out.kept hb); clear hb hx1 hc1 hl1))
                · go_roundg (gk - 1)
                  case measure => omega
                  case rel =>
                    have hgb := below_grown (Below.refl w.heap.size _) HOWN.out (Nat.le_refl _) (by simp; omega) HG3.out
                    have hD3 := (HD2.out.alloc (.cells #[.slice A3 rb.1.length c3] 61)).grown HG3.out (own_ne HOWN.out (HD2.out.alloc _) (by decide))
                    have hR3 := (HR2.out.alloc (.cells #[.slice A3 rb.1.length c3] 61)).grown HG3.out (own_ne HOWN.out (HR2.out.alloc _) (by decide))
                    have hP3 := PR.snoc HOWN.out HALL.out HIR.out HG3.out HO3.out
                    refine ⟨i + 1, out ++ [rb.1], A4, c4, by omega, by go_num, ?_, ?_, below_set ((HX2.out.alloc HX2.out.size _).trans hgb) (by omega) _ _, hD3.store_other (by omega), hR3.store_other (by omega), ?_, ?_⟩
                    · rw [HI.out.1, HDR.out, HRB.out, if_neg (fun h => h H0.out)]
                    · have := HZ32.out; simp; omega
                    · have := HC3.out.store 3 (.slice A4 (out.length + 1) c4)
                      simpa using this
                    · have := hP3.set HC3.out (by decide) (by decide) 3 (.slice A4 (out.length + 1) c4)
                      simpa using this
                · have HP : Hid (codeD ⟨nm, f, d, rows, dm⟩ = (cd0, rb.2.1, rb.2.2)) := by
                    show codeD _ = _
                    rw [HCD.out, HI.out.1, HDR.out, HRB.out, if_pos H0.out]
                    exact if_pos H0.out
                  have hz := zero_put (B := w.heap.size) HR2.out (Nat.le_succ _) (.string ⟨#[]⟩) (.int .i64 0) (.int .i64 0) (.slice none 0 0) (.int .i64 0)
                  rw [HP.out]
                  exact bodyPost_ret (res_code rfl _ _ (w.heap.size + 1) _ _ _ rfl hz.1 Tryz.underlying24 rfl icd) rfl ⟨.inr ⟨H0.out, rfl⟩, HX2.out.trans hz.2⟩
            · obtain rfl : i = nv := by omega
              have hji : ¬ (i : Int) < (i : Int) := by omega
              have HRO : Hid (rowsD (f.n : Int) (d.n : Int) rows [] = (out, 0, 0)) := by
                show rowsD (f.n : Int) (d.n : Int) rows [] = (out, 0, 0)
                rw [HI.out.1, List.drop_of_length_le (by rw [← HN.out]; exact Nat.le_refl _)]
                rfl
              have HCO : Hid (codeD ⟨nm, f, d, rows, dm⟩ = domD nm.tx f.n d.n out dm) := by
                show codeD _ = _
                rw [HCD.out, HRO.out, if_neg (by simp)]
              have hol := HI.out.2.1
              have LX := hideIt HI.out.2.2.1
              have LD := hideIt HI.out.2.2.2.1
              have LR := hideIt HI.out.2.2.2.2.1
              have LC := hideIt HI.out.2.2.2.2.2.1
              have LP := hideIt HI.out.2.2.2.2.2.2
              have e0 := LC.out.cell 0
              have e1 := LC.out.cell 1
              have e2 := LC.out.cell 2
              have e3 := LC.out.cell 3
              have e4 := LC.out.cell 4
              obtain ⟨z, hz⟩ : ∃ z : Int, z = (d.n : Int) + (out.length : Int) := ⟨_, rfl⟩
              have hza : binOp .add 3 (.int .i64 (d.n : Int)) (.int .i64 (out.length : Int)) = pure (.int .i64 z) := by rw [add_cc _ _ _ (by omega) (by omega), hz]
              have HWI := hideIt (fun dm W => width_any nm.tx (f.n : Int) (d.n : Int) A out.length c dm z hza W)
              have HDO := hideIt (fun dm x W => isDomain_any nm.tx (f.n : Int) (d.n : Int) A out.length c dm z hza x W)
              have HZ := hideIt hz
              have hz1 : 1 ≤ z := by omega
              clear hza hz
              cases hdc : dm with
              | none =>
                have hd0 := HDM.out
                rw [hdc] at hd0
                have hm1 : m1 = 0 := by injection hd0 with h1 _; injection h1
                have hm2 : m2 = [] := by injection hd0 with _ h2; injection h2 with h2 _; injection h2 with h2; exact ss_inj.1 h2
                subst hm1 hm2
                have hne : binOp .neq 9 (.string (ss [])) (.string ⟨#[]⟩) = pure (.bool false) := s_neq _ [] []
                have HP : Hid (codeD ⟨nm, f, d, rows, dm⟩ = (⟨nm.tx, f.n, d.n, out, z⟩, 0, 0)) := by
                  show codeD _ = _
                  rw [HCO.out, hdc, HZ.out]
                  rfl
                have HDT : Hid (decide (1 ≤ z ∧ z ≤ z) = true) := decide_eq_true ⟨hz1, Int.le_refl _⟩
                clear hd0 hdc
                go_wp2_with (first
                  | (go_at_call 38; refine (HDO.out z z _).mono ?_; rw [HDT.out]; rintro e w2 ⟨rfl, hb⟩; have hx := KX.out.trans (hb.mono KX.out.size); have hd_ := KD.out.kept hb KD.out.lt; have hr_ := KR.out.kept hb KR.out.lt; have hc_ := KC.out.kept hb KC.out.lt; have c0 := hc_.cell 0; have c1 := hc_.cell 1; have c2 := hc_.cell 2; have c3 := hc_.cell 3; have c4 := hc_.cell 4; have cf := hc_.free 4; have r0 := hr_.cell 0; have r1 := hr_.cell 1; have r2 := hr_.cell 2; have r3 := hr_.cell 3; have r4 := hr_.cell 4; have z0 := hr_.free 0; have z1 := hr_.free 1; have z2 := hr_.free 2; have z3 := hr_.free 3; have z4 := hr_.free 4; have d6 := hd_.cell 6; have d7 := hd_.cell 7; have NX := hideIt hx; have ND := hideIt hd_; have NR := hideIt hr_; have NC := hideIt hc_; have NP := hideIt (KP.out.kept hb); clear hb hx hd_ hr_ hc_)
                  | (go_at_call 36; refine (HWI.out 0 _).mono ?_; rintro e w1 ⟨rfl, hb⟩; have hx := LX.out.trans (hb.mono LX.out.size); have hd_ := LD.out.kept hb LD.out.lt; have hr_ := LR.out.kept hb LR.out.lt; have hc_ := LC.out.kept hb LC.out.lt; have c0 := hc_.cell 0; have c1 := hc_.cell 1; have c2 := hc_.cell 2; have c3 := hc_.cell 3; have c4 := hc_.cell 4; have cf := hc_.free 4; have r0 := hr_.cell 0; have r1 := hr_.cell 1; have r2 := hr_.cell 2; have r3 := hr_.cell 3; have r4 := hr_.cell 4; have z0 := hr_.free 0; have z1 := hr_.free 1; have z2 := hr_.free 2; have z3 := hr_.free 3; have z4 := hr_.free 4; have d6 := hd_.cell 6; have d7 := hd_.cell 7; have MX := hideIt hx; have MD := hideIt hd_; have MR := hideIt hr_; have MC := hideIt hc_; have MP := hideIt (LP.out.kept hb); clear hb hx hd_ hr_ hc_; have KX := hideIt (below_set (B := w.heap.size) MX.out (show w.heap.size ≤ cb by omega) 4 (.int .i64 z)); have KD := hideIt (MD.out.store_other (k := cb) (i := 4) (u := .int .i64 z) (show w.heap.size ≠ cb by omega)); have KR := hideIt (MR.out.store_other (k := cb) (i := 4) (u := .int .i64 z) (show w.heap.size + 1 ≠ cb by omega)); have kc := MC.out.store 4 (.int .i64 z); have KP := hideIt (MP.out.set MC.out (by decide) (by decide) 4 (.int .i64 z)); have k0 := kc.cell 0; have k1 := kc.cell 1; have k2 := kc.cell 2; have k3 := kc.cell 3; have k4 := kc.cell 4; have kd7 := KD.out.cell 7; have KC := hideIt kc; clear kc))
                have hz := zero_put (B := w.heap.size) NR.out (Nat.le_succ _) (.string (ss nm.tx)) (.int .i64 (f.n : Int)) (.int .i64 (d.n : Int)) (.slice A out.length c) (.int .i64 z)
                rw [HP.out]
                refine bodyPost_ret (res_code rfl _ _ (w.heap.size + 1) _ _ _ rfl hz.1 Tryz.underlying24 rfl icd) rfl ⟨.inl ⟨rfl, A, c, rfl, ?_⟩, NX.out.trans hz.2⟩
                have b0 := NR.out
                have b1 := b0.store 0 (.string (ss nm.tx))
                have b2 := b1.store 1 (.int .i64 (f.n : Int))
                have b3 := b2.store 2 (.int .i64 (d.n : Int))
                have b4 := b3.store 3 (.slice A out.length c)
                exact (((((NP.out.set b0 (by decide) (by decide) 0 _).set b1 (by decide) (by decide) 1 _).set b2 (by decide) (by decide) 2 _).set b3 (by decide) (by decide) 3 _).set b4 (by decide) (by decide) 4 _)
              | some m =>
                have hd0 := HDM.out
                rw [hdc] at hd0
                have hm1 : m1 = (m.ps : Int) := by injection hd0 with h1 _; injection h1
                have hm2 : m2 = m.tx := by injection hd0 with _ h2; injection h2 with h2 _; injection h2 with h2; exact ss_inj.1 h2
                have hmn := HDN.out m hdc
                subst hm1 hm2
                have hne : binOp .neq 9 (.string (ss m.tx)) (.string ⟨#[]⟩) = pure (.bool true) := (s_neq _ m.tx []).trans (by rw [decide_eq_true hmn.ne])
                have HMN := hideIt hmn
                have HPD : Hid (codeD ⟨nm, f, d, rows, dm⟩ = if (m.n : Int) < 1 ∨ z < (m.n : Int) then (cd0, m.ps, 1) else (⟨nm.tx, f.n, d.n, out, m.n⟩, 0, 0)) := by
                  show codeD _ = _
                  rw [HCO.out, hdc, HZ.out]
                  rfl
                by_cases hdt : 1 ≤ (m.n : Int) ∧ (m.n : Int) ≤ z
                · have HDT : Hid (decide (1 ≤ (m.n : Int) ∧ (m.n : Int) ≤ z) = true) := decide_eq_true hdt
                  have HP : Hid (codeD ⟨nm, f, d, rows, dm⟩ = (⟨nm.tx, f.n, d.n, out, m.n⟩, 0, 0)) := by
                    show codeD _ = _
                    rw [HPD.out]
                    exact if_neg (by omega)
                  clear hd0 hdc hdt hmn
                  go_wp2_with (first
                    | (go_at_call 38; refine (HDO.out (m.n : Int) (m.n : Int) _).mono ?_; rw [HDT.out]; rintro e w2 ⟨rfl, hb⟩; have hx := TX.out.trans (hb.mono TX.out.size); have hd_ := TD.out.kept hb TD.out.lt; have hr_ := TR.out.kept hb TR.out.lt; have hc_ := TC.out.kept hb TC.out.lt; have c0 := hc_.cell 0; have c1 := hc_.cell 1; have c2 := hc_.cell 2; have c3 := hc_.cell 3; have c4 := hc_.cell 4; have cf := hc_.free 4; have r0 := hr_.cell 0; have r1 := hr_.cell 1; have r2 := hr_.cell 2; have r3 := hr_.cell 3; have r4 := hr_.cell 4; have z0 := hr_.free 0; have z1 := hr_.free 1; have z2 := hr_.free 2; have z3 := hr_.free 3; have z4 := hr_.free 4; have d6 := hd_.cell 6; have d7 := hd_.cell 7; have NX := hideIt hx; have ND := hideIt hd_; have NR := hideIt hr_; have NC := hideIt hc_; have NP := hideIt (TP.out.kept hb); clear hb hx hd_ hr_ hc_)
                    | (go_at_call 68; refine (HV.out m HMN.out _).mono ?_; rintro e ws ⟨rfl, hb⟩; have hx := KX.out.trans (hb.mono KX.out.size); have hd_ := KD.out.kept hb KD.out.lt; have hr_ := KR.out.kept hb KR.out.lt; have hc_ := KC.out.kept hb KC.out.lt; have c0 := hc_.cell 0; have c1 := hc_.cell 1; have c2 := hc_.cell 2; have c3 := hc_.cell 3; have c4 := hc_.cell 4; have cf := hc_.free 4; have r0 := hr_.cell 0; have r1 := hr_.cell 1; have r2 := hr_.cell 2; have r3 := hr_.cell 3; have r4 := hr_.cell 4; have z0 := hr_.free 0; have z1 := hr_.free 1; have z2 := hr_.free 2; have z3 := hr_.free 3; have z4 := hr_.free 4; have d6 := hd_.cell 6; have d7 := hd_.cell 7; have SX := hideIt hx; have SD := hideIt hd_; have SR := hideIt hr_; have SC := hideIt hc_; have SP := hideIt (KP.out.kept hb); clear hb hx hd_ hr_ hc_; have TX := hideIt (below_set (B := w.heap.size) SX.out (show w.heap.size ≤ cb by omega) 4 (.int .i64 (m.n : Int))); have TD := hideIt (SD.out.store_other (k := cb) (i := 4) (u := (.int .i64 (m.n : Int))) (show w.heap.size ≠ cb by omega)); have TR := hideIt (SR.out.store_other (k := cb) (i := 4) (u := (.int .i64 (m.n : Int))) (show w.heap.size + 1 ≠ cb by omega)); have tc := SC.out.store 4 (.int .i64 (m.n : Int)); have TP := hideIt (SP.out.set SC.out (by decide) (by decide) 4 (.int .i64 (m.n : Int))); have k0 := tc.cell 0; have k1 := tc.cell 1; have k2 := tc.cell 2; have k3 := tc.cell 3; have k4 := tc.cell 4; have TC := hideIt tc; clear tc)
                    | (go_at_call 36; refine (HWI.out 0 _).mono ?_; rintro e w1 ⟨rfl, hb⟩; have hx := LX.out.trans (hb.mono LX.out.size); have hd_ := LD.out.kept hb LD.out.lt; have hr_ := LR.out.kept hb LR.out.lt; have hc_ := LC.out.kept hb LC.out.lt; have c0 := hc_.cell 0; have c1 := hc_.cell 1; have c2 := hc_.cell 2; have c3 := hc_.cell 3; have c4 := hc_.cell 4; have cf := hc_.free 4; have r0 := hr_.cell 0; have r1 := hr_.cell 1; have r2 := hr_.cell 2; have r3 := hr_.cell 3; have r4 := hr_.cell 4; have z0 := hr_.free 0; have z1 := hr_.free 1; have z2 := hr_.free 2; have z3 := hr_.free 3; have z4 := hr_.free 4; have d6 := hd_.cell 6; have d7 := hd_.cell 7; have MX := hideIt hx; have MD := hideIt hd_; have MR := hideIt hr_; have MC := hideIt hc_; have MP := hideIt (LP.out.kept hb); clear hb hx hd_ hr_ hc_; have KX := hideIt (below_set (B := w.heap.size) MX.out (show w.heap.size ≤ cb by omega) 4 (.int .i64 z)); have KD := hideIt (MD.out.store_other (k := cb) (i := 4) (u := .int .i64 z) (show w.heap.size ≠ cb by omega)); have KR := hideIt (MR.out.store_other (k := cb) (i := 4) (u := .int .i64 z) (show w.heap.size + 1 ≠ cb by omega)); have kc := MC.out.store 4 (.int .i64 z); have KP := hideIt (MP.out.set MC.out (by decide) (by decide) 4 (.int .i64 z)); have k0 := kc.cell 0; have k1 := kc.cell 1; have k2 := kc.cell 2; have k3 := kc.cell 3; have k4 := kc.cell 4; have kd6 := KD.out.cell 6; have kd7 := KD.out.cell 7; have kf := kc.free 4; have KC := hideIt kc; clear kc))
                  have hz := zero_put (B := w.heap.size) NR.out (Nat.le_succ _) (.string (ss nm.tx)) (.int .i64 (f.n : Int)) (.int .i64 (d.n : Int)) (.slice A out.length c) (.int .i64 (m.n : Int))
                  rw [HP.out]
                  refine bodyPost_ret (res_code rfl _ _ (w.heap.size + 1) _ _ _ rfl hz.1 Tryz.underlying24 rfl icd) rfl ⟨.inl ⟨rfl, A, c, rfl, ?_⟩, NX.out.trans hz.2⟩
                  have b0 := NR.out
                  have b1 := b0.store 0 (.string (ss nm.tx))
                  have b2 := b1.store 1 (.int .i64 (f.n : Int))
                  have b3 := b2.store 2 (.int .i64 (d.n : Int))
                  have b4 := b3.store 3 (.slice A out.length c)
                  exact (((((NP.out.set b0 (by decide) (by decide) 0 _).set b1 (by decide) (by decide) 1 _).set b2 (by decide) (by decide) 2 _).set b3 (by decide) (by decide) 3 _).set b4 (by decide) (by decide) 4 _)
                · have HDT : Hid (decide (1 ≤ (m.n : Int) ∧ (m.n : Int) ≤ z) = false) := decide_eq_false hdt
                  have HP : Hid (codeD ⟨nm, f, d, rows, dm⟩ = (cd0, m.ps, 1)) := by
                    show codeD _ = _
                    rw [HPD.out]
                    exact if_pos (by omega)
                  clear hd0 hdc hdt hmn
                  go_wp2_with (first
                    | (go_at_call 38; refine (HDO.out (m.n : Int) (m.n : Int) _).mono ?_; rw [HDT.out]; rintro e w2 ⟨rfl, hb⟩; have hx := TX.out.trans (hb.mono TX.out.size); have hd_ := TD.out.kept hb TD.out.lt; have hr_ := TR.out.kept hb TR.out.lt; have hc_ := TC.out.kept hb TC.out.lt; have c0 := hc_.cell 0; have c1 := hc_.cell 1; have c2 := hc_.cell 2; have c3 := hc_.cell 3; have c4 := hc_.cell 4; have cf := hc_.free 4; have r0 := hr_.cell 0; have r1 := hr_.cell 1; have r2 := hr_.cell 2; have r3 := hr_.cell 3; have r4 := hr_.cell 4; have z0 := hr_.free 0; have z1 := hr_.free 1; have z2 := hr_.free 2; have z3 := hr_.free 3; have z4 := hr_.free 4; have d6 := hd_.cell 6; have d7 := hd_.cell 7; have NX := hideIt hx; have ND := hideIt hd_; have NR := hideIt hr_; have NC := hideIt hc_; have NP := hideIt (TP.out.kept hb); clear hb hx hd_ hr_ hc_)
                    | (go_at_call 68; refine (HV.out m HMN.out _).mono ?_; rintro e ws ⟨rfl, hb⟩; have hx := KX.out.trans (hb.mono KX.out.size); have hd_ := KD.out.kept hb KD.out.lt; have hr_ := KR.out.kept hb KR.out.lt; have hc_ := KC.out.kept hb KC.out.lt; have c0 := hc_.cell 0; have c1 := hc_.cell 1; have c2 := hc_.cell 2; have c3 := hc_.cell 3; have c4 := hc_.cell 4; have cf := hc_.free 4; have r0 := hr_.cell 0; have r1 := hr_.cell 1; have r2 := hr_.cell 2; have r3 := hr_.cell 3; have r4 := hr_.cell 4; have z0 := hr_.free 0; have z1 := hr_.free 1; have z2 := hr_.free 2; have z3 := hr_.free 3; have z4 := hr_.free 4; have d6 := hd_.cell 6; have d7 := hd_.cell 7; have SX := hideIt hx; have SD := hideIt hd_; have SR := hideIt hr_; have SC := hideIt hc_; have SP := hideIt (KP.out.kept hb); clear hb hx hd_ hr_ hc_; have TX := hideIt (below_set (B := w.heap.size) SX.out (show w.heap.size ≤ cb by omega) 4 (.int .i64 (m.n : Int))); have TD := hideIt (SD.out.store_other (k := cb) (i := 4) (u := (.int .i64 (m.n : Int))) (show w.heap.size ≠ cb by omega)); have TR := hideIt (SR.out.store_other (k := cb) (i := 4) (u := (.int .i64 (m.n : Int))) (show w.heap.size + 1 ≠ cb by omega)); have tc := SC.out.store 4 (.int .i64 (m.n : Int)); have TP := hideIt (SP.out.set SC.out (by decide) (by decide) 4 (.int .i64 (m.n : Int))); have k0 := tc.cell 0; have k1 := tc.cell 1; have k2 := tc.cell 2; have k3 := tc.cell 3; have k4 := tc.cell 4; have TC := hideIt tc; clear tc)
                    | (go_at_call 36; refine (HWI.out 0 _).mono ?_; rintro e w1 ⟨rfl, hb⟩; have hx := LX.out.trans (hb.mono LX.out.size); have hd_ := LD.out.kept hb LD.out.lt; have hr_ := LR.out.kept hb LR.out.lt; have hc_ := LC.out.kept hb LC.out.lt; have c0 := hc_.cell 0; have c1 := hc_.cell 1; have c2 := hc_.cell 2; have c3 := hc_.cell 3; have c4 := hc_.cell 4; have cf := hc_.free 4; have r0 := hr_.cell 0; have r1 := hr_.cell 1; have r2 := hr_.cell 2; have r3 := hr_.cell 3; have r4 := hr_.cell 4; have z0 := hr_.free 0; have z1 := hr_.free 1; have z2 := hr_.free 2; have z3 := hr_.free 3; have z4 := hr_.free 4; have d6 := hd_.cell 6; have d7 := hd_.cell 7; have MX := hideIt hx; have MD := hideIt hd_; have MR := hideIt hr_; have MC := hideIt hc_; have MP := hideIt (LP.out.kept hb); clear hb hx hd_ hr_ hc_; have KX := hideIt (below_set (B := w.heap.size) MX.out (show w.heap.size ≤ cb by omega) 4 (.int .i64 z)); have KD := hideIt (MD.out.store_other (k := cb) (i := 4) (u := .int .i64 z) (show w.heap.size ≠ cb by omega)); have KR := hideIt (MR.out.store_other (k := cb) (i := 4) (u := .int .i64 z) (show w.heap.size + 1 ≠ cb by omega)); have kc := MC.out.store 4 (.int .i64 z); have KP := hideIt (MP.out.set MC.out (by decide) (by decide) 4 (.int .i64 z)); have k0 := kc.cell 0; have k1 := kc.cell 1; have k2 := kc.cell 2; have k3 := kc.cell 3; have k4 := kc.cell 4; have kd6 := KD.out.cell 6; have kd7 := KD.out.cell 7; have kf := kc.free 4; have KC := hideIt kc; clear kc))
                  go_region
                  go_wp2_with fail
                  have hz := zero_put (B := w.heap.size) NR.out (Nat.le_succ _) (.string ⟨#[]⟩) (.int .i64 0) (.int .i64 0) (.slice none 0 0) (.int .i64 0)
                  rw [HP.out]
                  exact bodyPost_ret (res_code rfl _ _ (w.heap.size + 1) _ _ _ rfl (blk_drew hz.1) Tryz.underlying24 rfl icd) rfl ⟨.inr ⟨one_ne, rfl⟩, (NX.out.trans hz.2).drew⟩

end Go.Proofs.YtcogkdnlpjfgdaaGreatDoor
