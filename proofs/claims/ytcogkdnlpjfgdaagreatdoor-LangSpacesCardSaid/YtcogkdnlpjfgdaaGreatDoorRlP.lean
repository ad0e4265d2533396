/-
  The reference's tokens and its parser in memory. No walk.
  The reference's parser, walked: is, fail, must, kind.
  The reference's parser, walked: must, kind.
  The reference's parser, walked: numbers.
  The reference's parser, walked: one.
  The reference's lines in memory, and one more of them.
-/
import Derived.Test.YtcogkdnlpjfgdaaGreatDoorLngW
import Derived.StillTailTactics
namespace Go.Proofs.YtcogkdnlpjfgdaaGreatDoor
open Go.RowKit
set_option linter.unusedVariables false
set_option linter.unusedSimpArgs false

/-- A token of the reference: its cells. -/
abbrev rtC (x : Tk) : List Value := [sv x.tx, .int .i64 (x.ps : Int), .int .i64 (x.kd : Int), .int .i64 (x.n : Int)]
abbrev rtV (x : Tk) : Value := .agg #[sv x.tx, .int .i64 (x.ps : Int), .int .i64 (x.kd : Int), .int .i64 (x.n : Int)]
theorem irt : (Tryz.prog.info? 46).map (·.size) = some 4 := by kernel_rfl
/-- How a function hands back a token through a cell of its own. -/
theorem rtok_ret {P : Program} {fn : Func} {p : Tmp} {T : TypeId} (x : Tk) (h : fn.results = #[.cell p T]) (tmps : Array Value) (w : World) (g : Nat) (ty : TypeId) (d : TypeDesc)
    (hp : tmps.getD p undef = .pointer (some ⟨g, 0, none⟩)) (hg : Blk w g ty (rtC x)) (hu : P.underlying T = some d) (hd : d.isRow = true) (hi : (P.info? T).map (·.size) = some 4) :
    (results fn tmps).run P w = .ok (rtV x) w := res_cell h tmps w g ty (rtC x) d hp hg hu hd hi
/-- A list of the reference's tokens in memory, the call's own. -/
def RtS (w : World) (B : Nat) (v : Value) (l : List Tk) : Prop := w.ownsRow B 46 4 v l.length (l.flatMap rtC)
theorem rt_ones (x : Tk) : ∀ u ∈ rtC x, u.oneCell' = true := by
  intro u hu
  simp only [List.mem_cons, List.not_mem_nil, or_false] at hu
  rcases hu with rfl | rfl | rfl | rfl <;> rfl
theorem RtS.tok {w : World} {B : Nat} {v : Value} {l : List Tk} (h : RtS w B v l) {j : Nat} (hj : j < l.length) :
    ∃ g c, v = .slice (some ⟨g, 0, none⟩) l.length c ∧ g < w.heap.size ∧ ∀ k u, (rtC l[j])[k]? = some u → w.cell? ⟨g, j * 4 + k, none⟩ = some u := by
  rcases h.2 with ⟨rfl, h0⟩ | ⟨g, cap, cur, rfl, _, hg, _, _, _, ht⟩
  · omega
  · have hx : ∀ k u, (l.flatMap rtC)[k]? = some u → w.cell? ⟨g, k, none⟩ = some u := fun k u hu => by
      have := World.ownsRow.cells h (g := g) rfl k u hu
      rwa [addr_add, Nat.zero_add] at this
    have hf : ∀ (l : List Tk) (j : Nat) (hj : j < l.length) (k : Nat) (u : Value), (rtC l[j])[k]? = some u → (l.flatMap rtC)[j * 4 + k]? = some u := by
      intro l
      induction l with
      | nil => intro j hj; exact absurd hj (Nat.not_lt_zero _)
      | cons x l ih =>
        intro j hj k u hk
        cases j with
        | zero =>
          rw [List.flatMap_cons, Nat.zero_mul, Nat.zero_add, List.getElem?_append_left]
          · exact hk
          · exact (List.getElem?_eq_some_iff.1 hk).1
        | succ j =>
          have := ih j (by simpa using hj) k u hk
          rw [List.flatMap_cons, show (j + 1) * 4 + k = (rtC x).length + (j * 4 + k) by show _ = 4 + _; omega, List.getElem?_append_right (by omega), Nat.add_sub_cancel_left]
          exact this
    exact ⟨g, cap, rfl, (Array.getElem?_eq_some_iff.1 hg).1, fun k u hu => hx _ _ (hf l j hj k u hu)⟩

/-- The parser in memory: its tokens, where it stands, the offset of the error. -/
structure RA (l : List Tk) (w : World) (pb : Nat) (v : Value) (S : PS) : Prop where
  blk : Blk w pb 84 [v, .int .i64 (S.i : Int), .int .i64 S.bad]
  tok : RtS w 0 v l
section
variable {l : List Tk} {w w' : World} {pb B : Nat} {v : Value} {S S' : PS}
theorem RA.kept (h : RA l w pb v S) (hb : Below w.heap.size w w') : RA l w' pb v S := ⟨h.blk.kept hb h.blk.lt, own_kept h.tok hb⟩
theorem RA.new (h : RA l w pb v S) (o : Obj) : RA l (w.alloc o) pb v S := ⟨h.blk.alloc o, World.ownsRow.alloc h.tok o⟩
theorem RA.lt (h : RA l w pb v S) : pb < w.heap.size := h.blk.lt
theorem RA.moved (h : RA l w pb v S) (i : Nat) : RA l (w.setCell ⟨pb, 1, none⟩ (.int .i64 (i : Int))) pb v ⟨i, S.bad⟩ := ⟨h.blk.store 1 _, own_set h.tok h.blk (by decide) 1 _⟩
theorem RA.failed (h : RA l w pb v S) (b : Int) : RA l (w.setCell ⟨pb, 2, none⟩ (.int .i64 b)) pb v ⟨S.i, b⟩ := ⟨h.blk.store 2 _, own_set h.tok h.blk (by decide) 2 _⟩
/-- The token that the parser stands at, and the parser's own cells. -/
theorem RA.cur (h : RA l w pb v S) (hi : S.i < l.length) : ∃ g c, v = .slice (some ⟨g, 0, none⟩) l.length c ∧ g < w.heap.size ∧ g ≠ pb ∧ ∀ k u, (rtC (cur l S))[k]? = some u → w.cell? ⟨g, S.i * 4 + k, none⟩ = some u := by
  obtain ⟨g, c, rfl, hg, hc⟩ := h.tok.tok hi
  refine ⟨g, c, rfl, hg, fun e => ?_, ?_⟩
  · have := own_ne h.tok h.blk (by decide)
    exact this (by rw [e]; rfl)
  · have e : Go.Proofs.YtcogkdnlpjfgdaaGreatDoor.cur l S = l[S.i] := by unfold Go.Proofs.YtcogkdnlpjfgdaaGreatDoor.cur; rw [List.getD_eq_getElem?_getD, List.getElem?_eq_getElem hi]; rfl
    rw [e]
    exact hc
end
/-- After a token that is none of the last kinds there is another one. -/
def Lst (l : List Tk) : Prop := ∀ i : Nat, i < l.length → (l.getD i tk0).kd ≤ 3 → i + 1 < l.length
theorem lst_toks (s : Bs) : Lst (toks s) := by
  obtain ⟨⟨a, t, h1, h2, h3⟩, _, _⟩ := toks_of s
  intro i hi hk
  rw [h1] at hi hk ⊢
  rw [List.length_append, List.length_singleton] at hi ⊢
  by_cases e : i = a.length
  · exfalso
    rw [e] at hk
    simp [List.getD_eq_getElem?_getD] at hk
    omega
  · omega
section
variable {l : List Tk} {S : PS}
theorem failP_i : (failP l S).i = S.i := by unfold failP; split <;> rfl
theorem mustP_lt (hl : Lst l) (t : Bs) (h : S.i < l.length) : (mustP l t S).i < l.length := by
  unfold mustP
  split
  · rename_i q
    have := isP_is q
    exact hl S.i h (by have h2 := this.2.1; unfold cur at h2; omega)
  · rw [failP_i]; exact h
theorem kindP_lt (hl : Lst l) {k : Nat} (hk : k ≤ 3) (h : S.i < l.length) : (kindP l k S).i < l.length := by
  unfold kindP
  split
  · rename_i q
    exact hl S.i h (by have h2 := q.2; unfold cur at h2; omega)
  · rw [failP_i]; exact h
theorem numsG_lt (hl : Lst l) : ∀ (f : Nat) (S : PS) (out : List Tk), S.i < l.length → (numsG l f S out).2.i < l.length
  | 0, S, out, h => h
  | f + 1, S, out, h => by
    rw [numsG]
    split
    · exact numsG_lt hl f _ _ (kindP_lt hl (by decide) h)
    · exact h
theorem numsP_lt (hl : Lst l) (h : S.i < l.length) : (numsP l S).2.i < l.length := numsG_lt hl _ _ _ (kindP_lt hl (by decide) h)
theorem oneP_lt (hl : Lst l) (k : Bs) (h : S.i < l.length) : (oneP l k S).2.i < l.length := mustP_lt hl _ (kindP_lt hl (by decide) (mustP_lt hl _ h))
theorem rowP_lt (hl : Lst l) (h : S.i < l.length) : (rowP l S).2.i < l.length := by
  unfold rowP
  split
  · exact mustP_lt hl _ (numsP_lt hl (mustP_lt hl _ (numsP_lt hl (mustP_lt hl _ h))))
  · exact mustP_lt hl _ (numsP_lt hl (mustP_lt hl _ h))
theorem rowsG_lt (hl : Lst l) : ∀ (f : Nat) (b : Bool) (S : PS) (out : List Ln), S.i < l.length → (rowsG l f b S out).2.i < l.length
  | 0, b, S, out, h => h
  | f + 1, b, S, out, h => by
    rw [rowsG]
    split
    · exact rowsG_lt hl f _ _ _ (rowP_lt hl h)
    · exact h
theorem headP_lt (hl : Lst l) (h : S.i < l.length) : (headP l S).i < l.length := mustP_lt hl _ (kindP_lt hl (by decide) (mustP_lt hl _ h))
theorem bodyP_lt (hl : Lst l) (h : S.i < l.length) : (bodyP l S).2.i < l.length := rowsG_lt hl _ _ _ _ (oneP_lt hl _ (oneP_lt hl _ h))
theorem endP_lt (hl : Lst l) {r : List Ln × PS} (h : r.2.i < l.length) : (endP l r).2.i < l.length := by
  unfold endP
  split
  · exact oneP_lt hl _ h
  · exact h
theorem codeP_lt (hl : Lst l) (h : S.i < l.length) : (codeP l S).2.i < l.length := mustP_lt hl _ (endP_lt hl (bodyP_lt hl (headP_lt hl h)))
end

theorem not_b2 (x : Bool) (w : World) : (Op.unary .not (.bool x)).run Tryz.prog w = .ok (.bool (!x)) w := rfl
theorem inc_r (t : TypeId) (j : Nat) (h : j < 9223372036854775807) : binOp .add t (.int .i64 (j : Int)) (.int .i64 1) = pure (.int .i64 ((j + 1 : Nat) : Int)) := by
  rw [binOp_add]
  simp only [Op.intArith]
  rw [IntWalk.i64_in _ (by omega)]
  rfl
theorem isP_split (l : List Tk) (t : Bs) (S : PS) : isP l t S = (decide (S.bad < 0) && (decide (((cur l S).kd : Int) = 1) || decide (((cur l S).kd : Int) = 3)) && decide ((cur l S).tx = t)) := by
  unfold isP
  rw [Bool.eq_iff_iff, decide_eq_true_iff, Bool.and_eq_true, Bool.and_eq_true, Bool.or_eq_true, decide_eq_true_iff, decide_eq_true_iff, decide_eq_true_iff, decide_eq_true_iff]
  constructor
  · rintro ⟨h1, h2, h3⟩; exact ⟨⟨h1, by omega⟩, h3⟩
  · rintro ⟨⟨h1, h2⟩, h3⟩; exact ⟨h1, by omega, h3⟩
set_option maxHeartbeats 1000000 in
set_option maxRecDepth 100000 in
theorem ris_any (l : List Tk) (v : Value) (S : PS) (pb : Nat) (t : Bs) (w : World) (h : RA l w pb v S) (hi : S.i < l.length) :
    Calls Tryz.prog 72 #[.pointer (some ⟨pb, 0, none⟩), sv t] w fun e w' => e = .returned (.bool (isP l t S)) ∧ Below w.heap.size w w' := by
  obtain ⟨g, c, rfl, hg, hne, hc⟩ := h.cur hi
  rw [isP_split]
  have h1 := i_eql 3 .i64 ((cur l S).kd : Int) 1
  have h3 := i_eql 3 .i64 ((cur l S).kd : Int) 3
  have ht := s_eql 9 (cur l S).tx t
  have HC := hideIt hc
  have HB := hideIt h.blk
  have hil : (S.i : Int) < (l.length : Int) := by omega
  generalize cur l S = x at *
  generalize decide ((x.kd : Int) = 1) = b1 at *
  generalize decide ((x.kd : Int) = 3) = b3 at *
  generalize decide (x.tx = t) = bt at *
  generalize l.length = n at *
  clear h hc hne hi
  have p0 := HB.out.cell 0
  have p1 := HB.out.cell 1
  have p2 := HB.out.cell 2
  have q0 : w.cell? ⟨g, S.i * 4, none⟩ = some (.string (ss x.tx)) := HC.out 0 _ rfl
  have q1 : w.cell? ⟨g, S.i * 4 + 1, none⟩ = some (.int .i64 (x.ps : Int)) := HC.out 1 _ rfl
  have q2 : w.cell? ⟨g, S.i * 4 + 2, none⟩ = some (.int .i64 (x.kd : Int)) := HC.out 2 _ rfl
  have q3 : w.cell? ⟨g, S.i * 4 + 3, none⟩ = some (.int .i64 (x.n : Int)) := HC.out 3 _ rfl
  obtain ⟨wa, hwa⟩ : ∃ W, W = w.alloc (.cells #[.string ⟨#[]⟩, .int .i64 0, .int .i64 0, .int .i64 0] 46) := ⟨_, rfl⟩
  have hba : Blk wa pb 84 [.slice (some ⟨g, 0, none⟩) n c, .int .i64 (S.i : Int), .int .i64 S.bad] := by rw [hwa]; exact HB.out.alloc _
  have hca : ∀ k u, (rtC x)[k]? = some u → wa.cell? ⟨g, S.i * 4 + k, none⟩ = some u := fun k u hu => by rw [hwa, World.cell?_alloc_past _ _ _ hg]; exact HC.out k u hu
  have e0 := hba.cell 0
  have e1 := hba.cell 1
  have e2 := hba.cell 2
  have g0 : wa.cell? ⟨g, S.i * 4, none⟩ = some (.string (ss x.tx)) := hca 0 _ rfl
  have g1 : wa.cell? ⟨g, S.i * 4 + 1, none⟩ = some (.int .i64 (x.ps : Int)) := hca 1 _ rfl
  have g2 : wa.cell? ⟨g, S.i * 4 + 2, none⟩ = some (.int .i64 (x.kd : Int)) := hca 2 _ rfl
  have g3 : wa.cell? ⟨g, S.i * 4 + 3, none⟩ = some (.int .i64 (x.n : Int)) := hca 3 _ rfl
  rw [hwa] at e0 e1 e2 g0 g1 g2 g3
  clear hba hca hwa wa
  obtain ⟨W2, hW2⟩ : ∃ W, W = (w.alloc (.cells (rtC x).toArray 46)).drew := ⟨_, rfl⟩
  have HW2 : Hid (Below w.heap.size w W2) := by rw [hW2]; exact (below_new w _).drew
  have hb2 : Blk W2 pb 84 [.slice (some ⟨g, 0, none⟩) n c, .int .i64 (S.i : Int), .int .i64 S.bad] := HB.out.kept HW2.out HB.out.lt
  have k2 := hb2.cell 2
  rw [hW2] at k2
  have HD := hideIt hW2
  clear hb2 hW2
  have hfin : ∀ W : World, W = (w.alloc (.cells (rtC x).toArray 46)).drew → Below w.heap.size w W := fun W h => by rw [h, ← HD.out]; exact HW2.out
  have HFIN := hideIt hfin
  clear hfin
  by_cases hb : S.bad < 0
  · rw [decide_eq_true hb]
    cases b1 <;> cases b3 <;> cases bt <;>
    · go_enter Tryz.func72, Tryz.ntmps72
      go_wp2_with fail
      go_region
      go_wp2_with fail
      go_ret
      exact ⟨rfl, HFIN.out _ rfl⟩
  · rw [decide_eq_false hb]
    go_enter Tryz.func72, Tryz.ntmps72
    go_wp2_with fail
    go_region
    go_wp2_with fail
    go_ret
    exact ⟨rfl, HFIN.out _ rfl⟩

set_option maxHeartbeats 1000000 in
set_option maxRecDepth 100000 in
theorem rfail_any (l : List Tk) (v : Value) (S : PS) (pb B : Nat) (hB : B ≤ pb) (w : World) (h : RA l w pb v S) (hi : S.i < l.length) (hBw : B ≤ w.heap.size) :
    Calls Tryz.prog 74 #[.pointer (some ⟨pb, 0, none⟩)] w fun e w' => e = .returned (.tuple #[]) ∧ RA l w' pb v (failP l S) ∧ KeepT B [84] w w' := by
  obtain ⟨g, c, rfl, hg, hne, hc⟩ := h.cur hi
  have HC := hideIt hc
  have HH := hideIt h
  have hil : (S.i : Int) < (l.length : Int) := by omega
  have p2 := h.blk.cell 2
  obtain ⟨F, hF⟩ : ∃ F, F = failP l S := ⟨_, rfl⟩
  rw [← hF]
  unfold failP at hF
  have HBB := hideIt hB
  have HBW := hideIt hBw
  obtain ⟨n, hn⟩ : ∃ n, n = l.length := ⟨_, rfl⟩
  rw [← hn] at hil HH ⊢
  have HN := hideIt hn
  clear h hc hne hi hB hBw
  by_cases hb : S.bad < 0
  · rw [if_pos hb] at hF
    have HF := hideIt hF
    generalize cur l S = x at *
    have p0 := HH.out.blk.cell 0
    have p1 := HH.out.blk.cell 1
    have f2 := HH.out.blk.free 2
    have q1 : w.cell? ⟨g, S.i * 4 + 1, none⟩ = some (.int .i64 (x.ps : Int)) := HC.out 1 _ rfl
    clear hF
    go_enter Tryz.func74, Tryz.ntmps74
    go_wp2_with fail
    go_region
    go_wp2_with fail
    go_end0
    refine ⟨rfl, ?_, ?_⟩
    · rw [HF.out]
      exact (HH.out.failed (x.ps : Int)).kept (Below.refl _ _).drew
    · exact (keepT_set (KeepT.refl _ _ _) HH.out.blk HBB.out).trans (KeepT.of_below (Below.refl _ _).drew (Nat.le_trans HBW.out (by simp [World.setCell])))
  · rw [if_neg hb] at hF
    have HF := hideIt hF
    clear hF
    go_enter Tryz.func74, Tryz.ntmps74
    go_wp2_with fail
    go_end0
    exact ⟨rfl, by rw [HF.out]; first | exact HH.out | (have := HH.out; rw [HN.out] at this; exact this), KeepT.refl _ _ _⟩

theorem keep_drew {B : Nat} {ts : List TypeId} {w0 w : World} (h : KeepT B ts w0 w) (hB : B ≤ w0.heap.size) : KeepT B ts w0 w.drew := h.since (Below.refl _ _).drew hB
theorem blk_ne {w : World} {g g' : Nat} {t t' : TypeId} {cs cs' : List Value} (h : Blk w g t cs) (h' : Blk w g' t' cs') (ht : t ≠ t') : g ≠ g' := fun e => by
  unfold Blk at h h'
  rw [e, h'] at h
  injection h with h
  injection h with _ h _
  exact ht h.symm
theorem own_set_at {w : World} {B g r n k m c : Nat} {e : TypeId} {xs : List Value} (h : w.ownsRow B e k (.slice (some ⟨g, 0, none⟩) m c) n xs) (hne : g ≠ r) (i : Nat) (u : Value) : (w.setCell ⟨r, i, none⟩ u).ownsRow B e k (.slice (some ⟨g, 0, none⟩) m c) n xs :=
  h.kept (row := some r) ⟨rfl, rfl, rfl, by simp [World.setCell], fun k hk hne => heap_setCell_other _ _ _ _ (fun e => hne (by rw [e]))⟩ (.inr fun e => hne (by injection e))
theorem RA.set_at {l : List Tk} {w : World} {pb g r c : Nat} {S : PS} (h : RA l w pb (.slice (some ⟨g, 0, none⟩) l.length c) S) (h1 : g ≠ r) (h2 : pb ≠ r) (i : Nat) (u : Value) : RA l (w.setCell ⟨r, i, none⟩ u) pb (.slice (some ⟨g, 0, none⟩) l.length c) S :=
  ⟨h.blk.store_other h2, own_set_at h.tok h1 i u⟩
theorem RA.step {l : List Tk} {w : World} {pb : Nat} {v : Value} {S : PS} (h : RA l w pb v S) : RA l (w.setCell ⟨pb, 1, none⟩ (.int .i64 ((S.i : Int) + 1))) pb v ⟨S.i + 1, S.bad⟩ := h.moved (S.i + 1)

set_option maxHeartbeats 2000000 in
set_option maxRecDepth 100000 in
theorem rmust_any (l : List Tk) (v : Value) (S : PS) (pb B : Nat) (hB : B ≤ pb) (t : Bs) (w : World) (h : RA l w pb v S) (hi : S.i < l.length) (hil2 : l.length ≤ 100000) (hBw : B ≤ w.heap.size) :
    Calls Tryz.prog 70 #[.pointer (some ⟨pb, 0, none⟩), sv t] w fun e w' => e = .returned (rtV (cur l S)) ∧ RA l w' pb v (mustP l t S) ∧ KeepT B [84] w w' := by
  obtain ⟨g, c, rfl, hg, hne, hc⟩ := h.cur hi
  obtain ⟨F, hF⟩ : ∃ F, F = mustP l t S := ⟨_, rfl⟩
  rw [← hF]
  unfold mustP at hF
  have HF := hideIt (fun (W : World) (hW : RA l W pb (.slice (some ⟨g, 0, none⟩) l.length c) S) hBW => rfail_any l _ S pb B hB W hW hi hBW)
  have HIS := hideIt (fun (W : World) (hW : RA l W pb (.slice (some ⟨g, 0, none⟩) l.length c) S) => ris_any l _ S pb t W hW hi)
  have hnot := not_b2
  have HBB := hideIt hB
  have HBW := hideIt hBw
  have hpl := h.lt
  have hil : (S.i : Int) < (l.length : Int) := by omega
  have hinc := inc_r 3 S.i (by omega)
  generalize cur l S = x at *
  -- behind the result's cell
  obtain ⟨w1, hw1⟩ : ∃ W, W = w.alloc (.cells #[.string ⟨#[]⟩, .int .i64 0, .int .i64 0, .int .i64 0] 46) := ⟨_, rfl⟩
  have hs1 : w1.heap.size = w.heap.size + 1 := by rw [hw1]; simp
  have h1 : RA l w1 pb (.slice (some ⟨g, 0, none⟩) l.length c) S := by rw [hw1]; exact h.new _
  have hr1 : Blk w1 w.heap.size 46 [.string ⟨#[]⟩, .int .i64 0, .int .i64 0, .int .i64 0] := by rw [hw1]; exact Blk.new w _ [.string ⟨#[]⟩, .int .i64 0, .int .i64 0, .int .i64 0]
  have hc1 : ∀ k u, (rtC x)[k]? = some u → w1.cell? ⟨g, S.i * 4 + k, none⟩ = some u := fun k u hu => by rw [hw1, World.cell?_alloc_past _ _ _ hg]; exact hc k u hu
  have hk1 : KeepT B [84] w w1 := by rw [hw1]; exact keepT_alloc (KeepT.refl _ _ _) hBw _
  have hg1 : g < w1.heap.size := by omega
  have p0 := h1.blk.cell 0
  have p1 := h1.blk.cell 1
  have p2 := h1.blk.cell 2
  have q0 : w1.cell? ⟨g, S.i * 4, none⟩ = some (.string (ss x.tx)) := hc1 0 _ rfl
  have q1 : w1.cell? ⟨g, S.i * 4 + 1, none⟩ = some (.int .i64 (x.ps : Int)) := hc1 1 _ rfl
  have q2 : w1.cell? ⟨g, S.i * 4 + 2, none⟩ = some (.int .i64 (x.kd : Int)) := hc1 2 _ rfl
  have q3 : w1.cell? ⟨g, S.i * 4 + 3, none⟩ = some (.int .i64 (x.n : Int)) := hc1 3 _ rfl
  obtain ⟨wa, hwa⟩ : ∃ W, W = w1.alloc (.cells #[.string ⟨#[]⟩, .int .i64 0, .int .i64 0, .int .i64 0] 46) := ⟨_, rfl⟩
  have hba : Blk wa pb 84 [.slice (some ⟨g, 0, none⟩) l.length c, .int .i64 (S.i : Int), .int .i64 S.bad] := by rw [hwa]; exact h1.blk.alloc _
  have hca : ∀ k u, (rtC x)[k]? = some u → wa.cell? ⟨g, S.i * 4 + k, none⟩ = some u := fun k u hu => by rw [hwa, World.cell?_alloc_past _ _ _ hg1]; exact hc1 k u hu
  have e0 := hba.cell 0
  have e1 := hba.cell 1
  have e2 := hba.cell 2
  have g0 : wa.cell? ⟨g, S.i * 4, none⟩ = some (.string (ss x.tx)) := hca 0 _ rfl
  have g1 : wa.cell? ⟨g, S.i * 4 + 1, none⟩ = some (.int .i64 (x.ps : Int)) := hca 1 _ rfl
  have g2 : wa.cell? ⟨g, S.i * 4 + 2, none⟩ = some (.int .i64 (x.kd : Int)) := hca 2 _ rfl
  have g3 : wa.cell? ⟨g, S.i * 4 + 3, none⟩ = some (.int .i64 (x.n : Int)) := hca 3 _ rfl
  rw [hwa] at e0 e1 e2 g0 g1 g2 g3
  -- behind the drawn region
  obtain ⟨w2, hw2⟩ : ∃ W, W = (w1.alloc (.cells #[.string (ss x.tx), .int .i64 (x.ps : Int), .int .i64 (x.kd : Int), .int .i64 (x.n : Int)] 46)).drew := ⟨_, rfl⟩
  have h2 : RA l w2 pb (.slice (some ⟨g, 0, none⟩) l.length c) S := by rw [hw2]; exact (h1.new _).kept (Below.refl _ _).drew
  have hr2 : Blk w2 w.heap.size 46 [.string ⟨#[]⟩, .int .i64 0, .int .i64 0, .int .i64 0] := by rw [hw2]; exact hr1.alloc _
  have hx2 : Blk w2 (w.heap.size + 1) 46 (rtC x) := by rw [hw2, ← hs1]; exact Blk.new w1 _ (rtC x)
  have hk2 : KeepT B [84] w w2 := by rw [hw2]; exact keep_drew (keepT_alloc hk1 hBw _) hBw
  have hgr : g ≠ w.heap.size := by omega
  have hpr : pb ≠ w.heap.size := by omega
  have hpx : pb ≠ w.heap.size + 1 := by omega
  rw [hw1] at p0 p1 p2 q0 q1 q2 q3 e0 e1 e2 g0 g1 g2 g3 hw2
  have H2 := hideIt h2
  have HR2 := hideIt hr2
  have HX2 := hideIt hx2
  have HK2 := hideIt hk2
  have HW2 := hideIt hw2
  have HNE := hideIt (And.intro hgr (And.intro hpr hpx))
  cases hp : isP l t S with
  | true =>
    rw [hp, if_pos rfl] at hF
    rw [hp] at HIS
    have HFF := hideIt hF
    clear hF hp HF
    clear h h1 h2 hc hc1 hca hba hwa wa hw1 hr1 hk1 hr2 hx2 hk2 hB hBw hne hw2 hs1 hg1 hgr hpr hpx hpl hi hil2
    go_enter Tryz.func70, Tryz.ntmps70
    go_wp2_with fail
    go_region
    rw [← HW2.out]
    go_wp2_with (go_at_call 72; refine (HIS.out _ H2.out).mono ?_; rintro e w3 ⟨rfl, hb⟩; have h3 := H2.out.kept hb; have hr3 := (HR2.out.kept hb HR2.out.lt); have hx3 := HX2.out.kept hb HX2.out.lt; have HK3 := (HK2.out.trans (KeepT.of_below hb (Nat.le_trans HBW.out HK2.out.size))); have t1 := h3.blk.cell 1; have f1 := h3.blk.free 1; have HK4 : Hid (KeepT B [84] w (w3.setCell ⟨pb, 1, none⟩ (.int .i64 ((S.i : Int) + 1)))) := keepT_set HK3 h3.blk HBB.out; have m := h3.step; have hr4 := hr3.store_other (k := pb) (i := 1) (u := .int .i64 ((S.i : Int) + 1)) (Ne.symm HNE.out.2.1); have hx4 := hx3.store_other (k := pb) (i := 1) (u := .int .i64 ((S.i : Int) + 1)) (Ne.symm HNE.out.2.2); have a0 := hx4.cell 0; have a1 := hx4.cell 1; have a2 := hx4.cell 2; have a3 := hx4.cell 3; have b0 := hr4.cell 0; have b1 := hr4.cell 1; have b2 := hr4.cell 2; have b3 := hr4.cell 3; have y0 := hr4.free 0; have y1 := hr4.free 1; have y2 := hr4.free 2; have y3 := hr4.free 3; have HM := hideIt m; have HR4 := hideIt hr4; clear hb hr3 hx3 hr4 hx4 m h3 HK3)
    refine bodyPost_ret (rtok_ret x rfl _ _ w.heap.size _ _ rfl ((((HR4.out.store 0 (sv x.tx)).store 1 (.int .i64 (x.ps : Int))).store 2 (.int .i64 (x.kd : Int))).store 3 (.int .i64 (x.n : Int))) Tryz.underlying46 rfl irt) rfl ⟨rfl, ?_, ?_⟩
    · rw [HFF.out]
      exact (((HM.out.set_at HNE.out.1 HNE.out.2.1 _ _).set_at HNE.out.1 HNE.out.2.1 _ _).set_at HNE.out.1 HNE.out.2.1 _ _).set_at HNE.out.1 HNE.out.2.1 _ _
    · exact HK4.out.since (below_four (Nat.le_refl _) _ _ _ _) HBW.out
  | false =>
    rw [hp, if_neg (by decide)] at hF
    rw [hp] at HIS
    have HFF := hideIt hF
    clear hF hp
    clear h h1 h2 hc hc1 hca hba hwa wa hw1 hr1 hk1 hr2 hx2 hk2 hB hBw hne hw2 hs1 hg1 hgr hpr hpx hpl hi hil2
    go_enter Tryz.func70, Tryz.ntmps70
    go_wp2_with fail
    go_region
    rw [← HW2.out]
    go_wp2_with (first
      | (go_at_call 72; refine (HIS.out _ H2.out).mono ?_; rintro e w3 ⟨rfl, hb⟩; have H3 := hideIt (H2.out.kept hb); have HR3 := hideIt (HR2.out.kept hb HR2.out.lt); have HX3 := hideIt (HX2.out.kept hb HX2.out.lt); have HK3 := hideIt (HK2.out.trans (KeepT.of_below hb (Nat.le_trans HBW.out HK2.out.size))); clear hb)
      | (go_at_call 74; refine (HF.out _ H3.out (Nat.le_trans HBW.out HK3.out.size)).mono ?_; rintro e w4 ⟨rfl, hm, hk⟩; have hr4 := HR3.out.keepT hk (by decide); have hx4 := HX3.out.keepT hk (by decide); have HK4 := hideIt (HK3.out.trans hk); have a0 := hx4.cell 0; have a1 := hx4.cell 1; have a2 := hx4.cell 2; have a3 := hx4.cell 3; have b0 := hr4.cell 0; have b1 := hr4.cell 1; have b2 := hr4.cell 2; have b3 := hr4.cell 3; have y0 := hr4.free 0; have y1 := hr4.free 1; have y2 := hr4.free 2; have y3 := hr4.free 3; have HM := hideIt hm; have HR4 := hideIt hr4; clear hr4 hx4 hm hk))
    refine bodyPost_ret (rtok_ret x rfl _ _ w.heap.size _ _ rfl ((((HR4.out.store 0 (sv x.tx)).store 1 (.int .i64 (x.ps : Int))).store 2 (.int .i64 (x.kd : Int))).store 3 (.int .i64 (x.n : Int))) Tryz.underlying46 rfl irt) rfl ⟨rfl, ?_, ?_⟩
    · rw [HFF.out]
      exact (((HM.out.set_at HNE.out.1 HNE.out.2.1 _ _).set_at HNE.out.1 HNE.out.2.1 _ _).set_at HNE.out.1 HNE.out.2.1 _ _).set_at HNE.out.1 HNE.out.2.1 _ _
    · exact HK4.out.since (below_four (Nat.le_refl _) _ _ _ _) HBW.out

set_option maxHeartbeats 2000000 in
set_option maxRecDepth 100000 in
theorem rkind_any (l : List Tk) (v : Value) (S : PS) (pb B : Nat) (hB : B ≤ pb) (k : Nat) (w : World) (h : RA l w pb v S) (hi : S.i < l.length) (hil2 : l.length ≤ 100000) (hBw : B ≤ w.heap.size) :
    Calls Tryz.prog 47 #[.pointer (some ⟨pb, 0, none⟩), .int .i64 (k : Int)] w fun e w' => e = .returned (rtV (cur l S)) ∧ RA l w' pb v (kindP l k S) ∧ KeepT B [84] w w' := by
  obtain ⟨g, c, rfl, hg, hne, hc⟩ := h.cur hi
  obtain ⟨F, hF⟩ : ∃ F, F = kindP l k S := ⟨_, rfl⟩
  rw [← hF]
  unfold kindP at hF
  have HF := hideIt (fun (W : World) (hW : RA l W pb (.slice (some ⟨g, 0, none⟩) l.length c) S) hBW => rfail_any l _ S pb B hB W hW hi hBW)
  have hkn := i_neq 3 .i64 ((cur l S).kd : Int) (k : Int)
  have HBB := hideIt hB
  have HBW := hideIt hBw
  have hpl := h.lt
  have hil : (S.i : Int) < (l.length : Int) := by omega
  have hinc := inc_r 3 S.i (by omega)
  generalize cur l S = x at *
  -- behind the result's cell
  obtain ⟨w1, hw1⟩ : ∃ W, W = w.alloc (.cells #[.string ⟨#[]⟩, .int .i64 0, .int .i64 0, .int .i64 0] 46) := ⟨_, rfl⟩
  have hs1 : w1.heap.size = w.heap.size + 1 := by rw [hw1]; simp
  have h1 : RA l w1 pb (.slice (some ⟨g, 0, none⟩) l.length c) S := by rw [hw1]; exact h.new _
  have hr1 : Blk w1 w.heap.size 46 [.string ⟨#[]⟩, .int .i64 0, .int .i64 0, .int .i64 0] := by rw [hw1]; exact Blk.new w _ [.string ⟨#[]⟩, .int .i64 0, .int .i64 0, .int .i64 0]
  have hc1 : ∀ k u, (rtC x)[k]? = some u → w1.cell? ⟨g, S.i * 4 + k, none⟩ = some u := fun k u hu => by rw [hw1, World.cell?_alloc_past _ _ _ hg]; exact hc k u hu
  have hk1 : KeepT B [84] w w1 := by rw [hw1]; exact keepT_alloc (KeepT.refl _ _ _) hBw _
  have hg1 : g < w1.heap.size := by omega
  have p0 := h1.blk.cell 0
  have p1 := h1.blk.cell 1
  have p2 := h1.blk.cell 2
  have q0 : w1.cell? ⟨g, S.i * 4, none⟩ = some (.string (ss x.tx)) := hc1 0 _ rfl
  have q1 : w1.cell? ⟨g, S.i * 4 + 1, none⟩ = some (.int .i64 (x.ps : Int)) := hc1 1 _ rfl
  have q2 : w1.cell? ⟨g, S.i * 4 + 2, none⟩ = some (.int .i64 (x.kd : Int)) := hc1 2 _ rfl
  have q3 : w1.cell? ⟨g, S.i * 4 + 3, none⟩ = some (.int .i64 (x.n : Int)) := hc1 3 _ rfl
  obtain ⟨wa, hwa⟩ : ∃ W, W = w1.alloc (.cells #[.string ⟨#[]⟩, .int .i64 0, .int .i64 0, .int .i64 0] 46) := ⟨_, rfl⟩
  have hba : Blk wa pb 84 [.slice (some ⟨g, 0, none⟩) l.length c, .int .i64 (S.i : Int), .int .i64 S.bad] := by rw [hwa]; exact h1.blk.alloc _
  have hca : ∀ k u, (rtC x)[k]? = some u → wa.cell? ⟨g, S.i * 4 + k, none⟩ = some u := fun k u hu => by rw [hwa, World.cell?_alloc_past _ _ _ hg1]; exact hc1 k u hu
  have e0 := hba.cell 0
  have e1 := hba.cell 1
  have e2 := hba.cell 2
  have g0 : wa.cell? ⟨g, S.i * 4, none⟩ = some (.string (ss x.tx)) := hca 0 _ rfl
  have g1 : wa.cell? ⟨g, S.i * 4 + 1, none⟩ = some (.int .i64 (x.ps : Int)) := hca 1 _ rfl
  have g2 : wa.cell? ⟨g, S.i * 4 + 2, none⟩ = some (.int .i64 (x.kd : Int)) := hca 2 _ rfl
  have g3 : wa.cell? ⟨g, S.i * 4 + 3, none⟩ = some (.int .i64 (x.n : Int)) := hca 3 _ rfl
  rw [hwa] at e0 e1 e2 g0 g1 g2 g3
  -- behind the drawn region
  obtain ⟨w2, hw2⟩ : ∃ W, W = (w1.alloc (.cells #[.string (ss x.tx), .int .i64 (x.ps : Int), .int .i64 (x.kd : Int), .int .i64 (x.n : Int)] 46)).drew := ⟨_, rfl⟩
  have h2 : RA l w2 pb (.slice (some ⟨g, 0, none⟩) l.length c) S := by rw [hw2]; exact (h1.new _).kept (Below.refl _ _).drew
  have hr2 : Blk w2 w.heap.size 46 [.string ⟨#[]⟩, .int .i64 0, .int .i64 0, .int .i64 0] := by rw [hw2]; exact hr1.alloc _
  have hx2 : Blk w2 (w.heap.size + 1) 46 (rtC x) := by rw [hw2, ← hs1]; exact Blk.new w1 _ (rtC x)
  have hk2 : KeepT B [84] w w2 := by rw [hw2]; exact keep_drew (keepT_alloc hk1 hBw _) hBw
  have hgr : g ≠ w.heap.size := by omega
  have hpr : pb ≠ w.heap.size := by omega
  have hpx : pb ≠ w.heap.size + 1 := by omega
  rw [hw1] at p0 p1 p2 q0 q1 q2 q3 e0 e1 e2 g0 g1 g2 g3 hw2
  have H2 := hideIt h2
  have HR2 := hideIt hr2
  have HX2 := hideIt hx2
  have HK2 := hideIt hk2
  have HW2 := hideIt hw2
  have HNE := hideIt (And.intro hgr (And.intro hpr hpx))
  by_cases hp : S.bad < 0 ∧ x.kd = k
  · rw [if_pos hp] at hF
    have hb : ¬ S.bad ≥ 0 := by omega
    rw [decide_eq_false (fun q => q (by omega))] at hkn
    have HFF := hideIt hF
    clear hF hp HF
    clear h h1 h2 hc hc1 hca hba hwa wa hw1 hr1 hk1 hr2 hx2 hk2 hB hBw hne hw2 hs1 hg1 hgr hpr hpx hpl hi hil2
    go_enter Tryz.func47, Tryz.ntmps47
    go_wp2_with fail
    go_region
    rw [← HW2.out]
    have h3 := H2.out
    have hr3 := HR2.out
    have hx3 := HX2.out
    have z2 := h3.blk.cell 2
    have s2 := hx3.cell 2
    have HK3 := HK2.out
    have t1 := h3.blk.cell 1
    have f1 := h3.blk.free 1
    have HK4 : Hid (KeepT B [84] w (w2.setCell ⟨pb, 1, none⟩ (.int .i64 ((S.i : Int) + 1)))) := keepT_set HK3 h3.blk HBB.out
    have m := h3.step
    have hr4 := hr3.store_other (k := pb) (i := 1) (u := .int .i64 ((S.i : Int) + 1)) (Ne.symm HNE.out.2.1)
    have hx4 := hx3.store_other (k := pb) (i := 1) (u := .int .i64 ((S.i : Int) + 1)) (Ne.symm HNE.out.2.2)
    have a0 := hx4.cell 0
    have a1 := hx4.cell 1
    have a2 := hx4.cell 2
    have a3 := hx4.cell 3
    have b0 := hr4.cell 0
    have b1 := hr4.cell 1
    have b2 := hr4.cell 2
    have b3 := hr4.cell 3
    have y0 := hr4.free 0
    have y1 := hr4.free 1
    have y2 := hr4.free 2
    have y3 := hr4.free 3
    have HM := hideIt m
    have HR4 := hideIt hr4
    clear hr3 hx3 hr4 hx4 m h3 HK3
    go_wp2_with fail
    refine bodyPost_ret (rtok_ret x rfl _ _ w.heap.size _ _ rfl ((((HR4.out.store 0 (sv x.tx)).store 1 (.int .i64 (x.ps : Int))).store 2 (.int .i64 (x.kd : Int))).store 3 (.int .i64 (x.n : Int))) Tryz.underlying46 rfl irt) rfl ⟨rfl, ?_, ?_⟩
    · rw [HFF.out]
      exact (((HM.out.set_at HNE.out.1 HNE.out.2.1 _ _).set_at HNE.out.1 HNE.out.2.1 _ _).set_at HNE.out.1 HNE.out.2.1 _ _).set_at HNE.out.1 HNE.out.2.1 _ _
    · exact HK4.out.since (below_four (Nat.le_refl _) _ _ _ _) HBW.out
  · rw [if_neg hp] at hF
    have HFF := hideIt hF
    clear hF
    by_cases hb : S.bad ≥ 0
    · clear hp
      clear h h1 h2 hc hc1 hca hba hwa wa hw1 hr1 hk1 hr2 hx2 hk2 hB hBw hne hw2 hs1 hg1 hgr hpr hpx hpl hi hil2
      go_enter Tryz.func47, Tryz.ntmps47
      go_wp2_with fail
      go_region
      rw [← HW2.out]
      have z2 := H2.out.blk.cell 2
      have s2 := HX2.out.cell 2
      go_wp2_with (go_at_call 74; refine (HF.out _ H2.out (Nat.le_trans HBW.out HK2.out.size)).mono ?_; rintro e w4 ⟨rfl, hm, hk⟩; have hr4 := HR2.out.keepT hk (by decide); have hx4 := HX2.out.keepT hk (by decide); have HK4 := hideIt (HK2.out.trans hk); have a0 := hx4.cell 0; have a1 := hx4.cell 1; have a2 := hx4.cell 2; have a3 := hx4.cell 3; have b0 := hr4.cell 0; have b1 := hr4.cell 1; have b2 := hr4.cell 2; have b3 := hr4.cell 3; have y0 := hr4.free 0; have y1 := hr4.free 1; have y2 := hr4.free 2; have y3 := hr4.free 3; have HM := hideIt hm; have HR4 := hideIt hr4; clear hr4 hx4 hm hk)
      refine bodyPost_ret (rtok_ret x rfl _ _ w.heap.size _ _ rfl ((((HR4.out.store 0 (sv x.tx)).store 1 (.int .i64 (x.ps : Int))).store 2 (.int .i64 (x.kd : Int))).store 3 (.int .i64 (x.n : Int))) Tryz.underlying46 rfl irt) rfl ⟨rfl, ?_, ?_⟩
      · rw [HFF.out]
        exact (((HM.out.set_at HNE.out.1 HNE.out.2.1 _ _).set_at HNE.out.1 HNE.out.2.1 _ _).set_at HNE.out.1 HNE.out.2.1 _ _).set_at HNE.out.1 HNE.out.2.1 _ _
      · exact HK4.out.since (below_four (Nat.le_refl _) _ _ _ _) HBW.out
    · rw [decide_eq_true (show (x.kd : Int) ≠ (k : Int) from fun q => hp ⟨by omega, by omega⟩)] at hkn
      clear hp
      clear h h1 h2 hc hc1 hca hba hwa wa hw1 hr1 hk1 hr2 hx2 hk2 hB hBw hne hw2 hs1 hg1 hgr hpr hpx hpl hi hil2
      go_enter Tryz.func47, Tryz.ntmps47
      go_wp2_with fail
      go_region
      rw [← HW2.out]
      have z2 := H2.out.blk.cell 2
      have s2 := HX2.out.cell 2
      go_wp2_with (go_at_call 74; refine (HF.out _ H2.out (Nat.le_trans HBW.out HK2.out.size)).mono ?_; rintro e w4 ⟨rfl, hm, hk⟩; have hr4 := HR2.out.keepT hk (by decide); have hx4 := HX2.out.keepT hk (by decide); have HK4 := hideIt (HK2.out.trans hk); have a0 := hx4.cell 0; have a1 := hx4.cell 1; have a2 := hx4.cell 2; have a3 := hx4.cell 3; have b0 := hr4.cell 0; have b1 := hr4.cell 1; have b2 := hr4.cell 2; have b3 := hr4.cell 3; have y0 := hr4.free 0; have y1 := hr4.free 1; have y2 := hr4.free 2; have y3 := hr4.free 3; have HM := hideIt hm; have HR4 := hideIt hr4; clear hr4 hx4 hm hk)
      refine bodyPost_ret (rtok_ret x rfl _ _ w.heap.size _ _ rfl ((((HR4.out.store 0 (sv x.tx)).store 1 (.int .i64 (x.ps : Int))).store 2 (.int .i64 (x.kd : Int))).store 3 (.int .i64 (x.n : Int))) Tryz.underlying46 rfl irt) rfl ⟨rfl, ?_, ?_⟩
      · rw [HFF.out]
        exact (((HM.out.set_at HNE.out.1 HNE.out.2.1 _ _).set_at HNE.out.1 HNE.out.2.1 _ _).set_at HNE.out.1 HNE.out.2.1 _ _).set_at HNE.out.1 HNE.out.2.1 _ _
      · exact HK4.out.since (below_four (Nat.le_refl _) _ _ _ _) HBW.out

/-- The parser's block has been left alone by what grew a row elsewhere. -/
theorem RA.grown {l : List Tk} {w w' : World} {pb g c : Nat} {S : PS} {row : Option Nat} (h : RA l w pb (.slice (some ⟨g, 0, none⟩) l.length c) S) (hg : w.grownBy w' row) (h1 : some pb ≠ row) (h2 : some g ≠ row) : RA l w' pb (.slice (some ⟨g, 0, none⟩) l.length c) S :=
  ⟨h.blk.grown hg h1, World.ownsRow.kept h.tok hg (.inr h2)⟩
theorem kindP_i2 {l : List Tk} {S : PS} (hb : S.bad < 0) (hk : (cur l S).kd = 2) : (kindP l 2 S).i = S.i + 1 := by unfold kindP; rw [if_pos ⟨hb, hk⟩]

set_option maxHeartbeats 2000000 in
set_option maxRecDepth 100000 in
theorem rnumbers_any (l : List Tk) (hl : Lst l) (v : Value) (S : PS) (pb B : Nat) (hB : B ≤ pb) (w : World) (h : RA l w pb v S) (hi : S.i < l.length) (hil2 : l.length ≤ 100000) (hBw : B ≤ w.heap.size) :
    Calls Tryz.prog 73 #[.pointer (some ⟨pb, 0, none⟩)] w fun e w' => (∃ A c, e = .returned (.slice A (numsP l S).1.length c) ∧ RtS w' w.heap.size (.slice A (numsP l S).1.length c) (numsP l S).1) ∧ RA l w' pb v (numsP l S).2 ∧ KeepT B [84] w w' := by
  obtain ⟨i0, hi0, hz0, hz1, hz2⟩ := info_three (show (Tryz.prog.info? 46).map (fun i => (i.zero, i.size, i.bytes)) = some (some (.agg #[.string ⟨#[]⟩, .int .i64 0, .int .i64 0, .int .i64 0]), 4, 40) by kernel_rfl)
  obtain ⟨g, c, rfl, hg, hne, hc⟩ := h.cur hi
  have HKD := hideIt (fun (S : PS) (W : World) (hW : RA l W pb (.slice (some ⟨g, 0, none⟩) l.length c) S) hi hBW => rkind_any l _ S pb B hB 2 W hW hi hil2 hBW)
  obtain ⟨R, hR⟩ : ∃ R, R = numsP l S := ⟨_, rfl⟩
  rw [← hR]
  have HR : Hid (R = numsG l (l.length + 1) (kindP l 2 S) [cur l S]) := hR
  have HW := hideIt hBw
  have HL := hideIt hl
  have HLK := hideIt (kindP_lt hl (k := 2) (by decide) hi)
  have HGW := hideIt hg
  have H := hideIt h
  have HI0 := hideIt hi
  have HPL := hideIt h.lt
  have hl2 : l.length ≤ 100000 := hil2
  have HK0 := hideIt (HKD.out S w h hi hBw)
  generalize hS1 : kindP l 2 S = S1 at *
  generalize cur l S = x0 at *
  clear hR h hc hB hBw hl hil2 hne hi hS1
  go_enter Tryz.func73, Tryz.ntmps73
  go_wp2_with (go_at_call 47; refine HK0.out.mono ?_; rintro e w1 ⟨rfl, hm, hk⟩; have HM1 := hideIt hm; have HK1 := hideIt hk; clear hm hk)
  go_loopg [3] (l.length + 1) (fun gk s3 wr => ∃ (S' : PS) (out : List Tk) (v3 : Value), v3 = s3 ∧ Aside (numsG l gk S' out = R ∧ RA l wr pb (.slice (some ⟨g, 0, none⟩) l.length c) S' ∧ wr.ownsRow w.heap.size 46 4 v3 out.length (out.flatMap rtC) ∧ KeepT B [84] w wr ∧ S'.i < l.length ∧ out.length ≤ S'.i + 1 ∧ l.length + 1 ≤ gk + S'.i))
  case atStart => exact ⟨S1, [x0], _, rfl, HR.out.symm, HM1.out.new _, own_new w1 w.heap.size HK1.out.size 46 (rtC x0) 4 rfl, keepT_alloc HK1.out HW.out _, HLK.out, by simp, by omega⟩
  case round =>
    obtain ⟨S', out, v3, rfl, HI⟩ := hrel
    obtain ⟨g', c', hv, hgg, _, hcc⟩ := HI.out.2.1.cur HI.out.2.2.2.2.1
    injection hv with e1 e2 e3
    injection e1 with e1
    injection e1 with e1
    subst e1 e3
    have p0 := HI.out.2.1.blk.cell 0
    have p1 := HI.out.2.1.blk.cell 1
    have p2 := HI.out.2.1.blk.cell 2
    have q2 : wr.cell? ⟨g, S'.i * 4 + 2, none⟩ = some (.int .i64 ((cur l S').kd : Int)) := hcc 2 _ rfl
    have hil : (S'.i : Int) < (l.length : Int) := by have := HI.out.2.2.2.2.1; omega
    have hk2 := i_eql 3 .i64 ((cur l S').kd : Int) 2
    have hgk : ∃ g, gk = g + 1 := ⟨gk - 1, by have := HI.out.2.2.2.2.1; have := HI.out.2.2.2.2.2.2; omega⟩
    obtain ⟨gk', hgk⟩ := hgk
    have HG := hideIt hgk
    have HKK := hideIt (fun W hW hBW => HKD.out S' W hW HI.out.2.2.2.2.1 hBW)
    have HLT := hideIt (fun (hb : S'.bad < 0) (hk : (cur l S').kd = 2) => And.intro (kindP_i2 hb hk) (kindP_lt HL.out (k := 2) (by decide) HI.out.2.2.2.2.1))
    have HNU : Hid (numsG l gk S' out = if S'.bad < 0 ∧ (cur l S').kd = 2 then numsG l gk' (kindP l 2 S') (out ++ [cur l S']) else (out, S')) := by show _ = _; rw [hgk, numsG]
    generalize hS2 : kindP l 2 S' = S2 at *
    generalize cur l S' = x at *
    clear hS2 hcc hgg hgk
    by_cases hb : S'.bad < 0
    · by_cases hkk : x.kd = 2
      · have HST : Hid (numsG l gk' S2 (out ++ [x]) = R) := by have := HI.out.1; rw [HNU.out, if_pos ⟨hb, hkk⟩] at this; exact this
        have hlt := HLT.out hb hkk
        have HL1 := hideIt hlt.1
        have HL2 := hideIt hlt.2
        rw [decide_eq_true (by omega)] at hk2
        have hol : out.length ≤ 100001 := by have := HI.out.2.2.2.2.1; have := HI.out.2.2.2.2.2.1; omega
        clear hkk hlt
        go_wp2_with fail
        go_quiet (fail)
        generalize hwq : wr.drewN _ = wq at *
        have HBQ : Hid (Below wr.heap.size wr wq) := by rw [← hwq]; exact below_drewN (Below.refl _ _) _
        clear hwq
        have HMQ := hideIt (HI.out.2.1.kept HBQ.out)
        have HOQ := hideIt (own_kept HI.out.2.2.1 HBQ.out)
        have HKQ := hideIt (HI.out.2.2.2.1.trans (KeepT.of_below HBQ.out (Nat.le_trans HW.out HI.out.2.2.2.1.size)))
        go_wp2_with (first
          | (go_at_call 47; refine (HKK.out _ HMQ.out (Nat.le_trans HW.out HKQ.out.size)).mono ?_; rintro e w3 ⟨rfl, hm, hk⟩; have HM3 := hideIt hm; have HK3 := hideIt (HKQ.out.trans hk); have HO3 := hideIt (own_keepT HOQ.out hk (by decide)); clear hm hk)
          | ((with_reducible refine at_append ?_); refine wpList_app2 rfl (.tmp 26) (.tmp 29) 43 rfl w.heap.size 46 i0 (.agg #[.string ⟨#[]⟩, .int .i64 0, .int .i64 0, .int .i64 0]) 4 40 Tryz.underlying43 hi0 hz0 hz1 hz2 rfl (by decide) _ out.length (out.flatMap rtC) rfl (HO3.out.alloc _) _ _ 1 1 (rtC x) rfl (sl_cells w3 46 (rtC x) 4 rfl) (rt_ones x) (by unfold maxLen; omega) (by omega) (Nat.le_trans HK3.out.size (below_new w3 _).size) ?_; intro v4 w4 ho4 hg4; have HO4 := own_is (n' := (out ++ [x]).length) (xs' := (out ++ [x]).flatMap rtC) ho4 (by simp) (by simp); have HG4 := hideIt hg4; clear ho4 hg4))
        go_roundg gk'
        case measure => have := HG.out; omega
        case rel =>
          have hown := HO3.out.alloc (.cells (rtC x).toArray 46)
          refine ⟨S2, out ++ [x], _, rfl, HST.out, (HM3.out.new _).grown HG4.out (own_ne hown (HM3.out.new _).blk (by decide)) (fun e => by have := World.ownsRow.lt hown _ e.symm; have := HGW.out; omega), HO4.out, ?_, HL2.out, by have := HL1.out; have := HI.out.2.2.2.2.2.1; simp; omega, by have := HL1.out; have := HG.out; have := HI.out.2.2.2.2.2.2; omega⟩
          exact (keepT_alloc HK3.out HW.out _).since (below_grown (Below.refl _ _) hown (Nat.le_refl _) (Nat.le_trans HK3.out.size (below_new w3 _).size) HG4.out) HW.out
      · have HST : Hid (R = (out, S')) := by have := HI.out.1; rw [HNU.out, if_neg (fun q => hkk q.2)] at this; exact this.symm
        rw [decide_eq_false (by omega)] at hk2
        clear hkk
        go_wp2_with fail
        go_quiet (fail)
        go_wp2_with fail
        go_ret
        have hR := HST.out
        subst hR
        have hbq : Below wr.heap.size wr (wr.drewN 0) := below_drewN (Below.refl _ _) _
        obtain ⟨A, c2, rfl, _, _⟩ := own_form HI.out.2.2.1
        exact ⟨⟨A, c2, rfl, own_kept HI.out.2.2.1 (below_drewN (Below.refl _ _) _)⟩, HI.out.2.1.kept (below_drewN (Below.refl _ _) _), HI.out.2.2.2.1.trans (KeepT.of_below (below_drewN (Below.refl _ _) _) (Nat.le_trans HW.out HI.out.2.2.2.1.size))⟩
    · have HST : Hid (R = (out, S')) := by have := HI.out.1; rw [HNU.out, if_neg (fun q => hb q.1)] at this; exact this.symm
      have hbd : decide (S'.bad < 0) = false := decide_eq_false hb
      clear hb
      go_wp2_with fail
      go_quiet (fail)
      go_wp2_with fail
      go_ret
      have hR := HST.out
      subst hR
      obtain ⟨A, c2, rfl, _, _⟩ := own_form HI.out.2.2.1
      exact ⟨⟨A, c2, rfl, own_kept HI.out.2.2.1 (below_drewN (Below.refl _ _) _)⟩, HI.out.2.1.kept (below_drewN (Below.refl _ _) _), HI.out.2.2.2.1.trans (KeepT.of_below (below_drewN (Below.refl _ _) _) (Nat.le_trans HW.out HI.out.2.2.2.1.size))⟩

/-- A line of the reference in memory. -/
def LnR (w : World) (B : Nat) (x : Ln) (cs : List Value) : Prop := ∃ va vb, cs = [sv x.key.tx, .int .i64 (x.key.ps : Int), .int .i64 (x.key.kd : Int), .int .i64 (x.key.n : Int), va, vb] ∧ RtS w B va x.a ∧ RtS w B vb x.b
theorem RtS.nil (w : World) (B : Nat) : RtS w B (.slice none 0 0) [] := World.ownsRow_nil _ _ _ _
theorem iln : (Tryz.prog.info? 112).map (·.size) = some 6 := by kernel_rfl
theorem rln_ret {P : Program} {fn : Func} {p : Tmp} {T : TypeId} (cs : List Value) (hl : cs.length = 6) (h : fn.results = #[.cell p T]) (tmps : Array Value) (w : World) (g : Nat) (ty : TypeId) (d : TypeDesc)
    (hp : tmps.getD p undef = .pointer (some ⟨g, 0, none⟩)) (hg : Blk w g ty cs) (hu : P.underlying T = some d) (hd : d.isRow = true) (hi : (P.info? T).map (·.size) = some 6) :
    (results fn tmps).run P w = .ok (.agg cs.toArray) w := res_cell h tmps w g ty cs d hp hg hu hd (by rw [hl]; exact hi)
theorem below_six {B g : Nat} {w : World} (hg : B ≤ g) (a b c d e f : Value) : Below B w ((((((w.setCell ⟨g, 0, none⟩ a).setCell ⟨g, 1, none⟩ b).setCell ⟨g, 2, none⟩ c).setCell ⟨g, 3, none⟩ d).setCell ⟨g, 4, none⟩ e).setCell ⟨g, 5, none⟩ f) :=
  below_set (below_set (below_four hg a b c d) hg _ _) hg _ _
set_option maxHeartbeats 2000000 in
set_option maxRecDepth 100000 in
theorem rone_any (l : List Tk) (hl : Lst l) (v : Value) (S : PS) (pb B : Nat) (hB : B ≤ pb) (k : Bs) (w : World) (h : RA l w pb v S) (hi : S.i < l.length) (hil2 : l.length ≤ 100000) (hBw : B ≤ w.heap.size) :
    Calls Tryz.prog 71 #[.pointer (some ⟨pb, 0, none⟩), sv k] w fun e w' => (∃ cs, e = .returned (.agg cs.toArray) ∧ LnR w' w.heap.size (oneP l k S).1 cs) ∧ RA l w' pb v (oneP l k S).2 ∧ KeepT B [84] w w' := by
  obtain ⟨g, c, rfl, hg, hne, hc⟩ := h.cur hi
  obtain ⟨S1, hS1⟩ : ∃ S1, S1 = mustP l k S := ⟨_, rfl⟩
  obtain ⟨S2, hS2⟩ : ∃ S2, S2 = kindP l 2 S1 := ⟨_, rfl⟩
  have hone : oneP l k S = (⟨cur l S, [cur l S1], []⟩, mustP l [59] S2) := by rw [hS2, hS1]; rfl
  rw [hone]
  have hi1 : S1.i < l.length := by rw [hS1]; exact mustP_lt hl _ hi
  have hi2 : S2.i < l.length := by rw [hS2]; exact kindP_lt hl (by decide) hi1
  have HE1 := hideIt (fun W hW hBW => rmust_any l (.slice (some ⟨g, 0, none⟩) l.length c) S pb B hB k W hW hi hil2 hBW)
  have HE2 := hideIt (fun W hW hBW => rkind_any l (.slice (some ⟨g, 0, none⟩) l.length c) S1 pb B hB 2 W hW hi1 hil2 hBW)
  have HE3 := hideIt (fun W hW hBW => rmust_any l (.slice (some ⟨g, 0, none⟩) l.length c) S2 pb B hB [59] W hW hi2 hil2 hBW)
  rw [← hS1] at HE1
  rw [← hS2] at HE2
  have HW := hideIt hBw
  have HGR : Hid (g ≠ w.heap.size) := by show g ≠ _; omega
  have HPR : Hid (pb ≠ w.heap.size) := by have := h.lt; show pb ≠ _; omega
  obtain ⟨w0, hw0⟩ : ∃ W, W = w.alloc (.cells #[.string ⟨#[]⟩, .int .i64 0, .int .i64 0, .int .i64 0, .slice none 0 0, .slice none 0 0] 112) := ⟨_, rfl⟩
  have HM0 : Hid (RA l w0 pb (.slice (some ⟨g, 0, none⟩) l.length c) S) := by rw [hw0]; exact h.new _
  have HR0 : Hid (Blk w0 w.heap.size 112 [.string ⟨#[]⟩, .int .i64 0, .int .i64 0, .int .i64 0, .slice none 0 0, .slice none 0 0]) := by rw [hw0]; exact Blk.new w _ [.string ⟨#[]⟩, .int .i64 0, .int .i64 0, .int .i64 0, .slice none 0 0, .slice none 0 0]
  have HK0 : Hid (KeepT B [84] w w0) := by rw [hw0]; exact keepT_alloc (KeepT.refl _ _ _) hBw _
  have HW0 := hideIt hw0
  generalize mustP l [59] S2 = S3 at *
  generalize cur l S = x at *
  generalize cur l S1 = y at *
  clear h hi hi1 hi2 hil2 hBw hB hl hg hne hc hone hS1 hS2 hw0
  go_enter Tryz.func71, Tryz.ntmps71
  go_wp2_with (first
    | (go_at_call 70; rw [← HW0.out]; refine (HE1.out _ HM0.out (Nat.le_trans HW.out HK0.out.size)).mono ?_; rintro e w1 ⟨rfl, hm, hk⟩; have hx1 := Blk.new w1 46 (rtC x); have HX1 := hideIt hx1; have HM1 := hideIt (hm.new (.cells (rtC x).toArray 46)); have HR1 := hideIt ((HR0.out.keepT hk (by decide)).alloc (.cells (rtC x).toArray 46)); have HK1 := hideIt (keepT_alloc (HK0.out.trans hk) HW.out (.cells (rtC x).toArray 46)); clear hm hk hx1 HE1)
    | (go_at_call 47; refine (HE2.out _ HM1.out (Nat.le_trans HW.out HK1.out.size)).mono ?_; rintro e w2 ⟨rfl, hm, hk⟩; have HY2 := hideIt (Blk.new w2 46 (rtC y)); have HX2 := hideIt ((HX1.out.keepT hk (by decide)).alloc (.cells (rtC y).toArray 46)); have HM2 := hideIt (hm.new (.cells (rtC y).toArray 46)); have HR2 := hideIt ((HR1.out.keepT hk (by decide)).alloc (.cells (rtC y).toArray 46)); have HK2 := hideIt (keepT_alloc (HK1.out.trans hk) HW.out (.cells (rtC y).toArray 46)); clear hm hk)
    | (go_at_call 70; refine (HE3.out _ HM2.out (Nat.le_trans HW.out HK2.out.size)).mono ?_; rintro e w3 ⟨rfl, hm, hk⟩; have hy3 := (HY2.out.keepT hk (by decide)); have hx3 := (HX2.out.keepT hk (by decide)); have hr3 := HR2.out.keepT hk (by decide); have x0 := hx3.cell 0; have x1 := hx3.cell 1; have x2 := hx3.cell 2; have x3 := hx3.cell 3; have y0 := hy3.cell 0; have y1 := hy3.cell 1; have y2 := hy3.cell 2; have y3 := hy3.cell 3; have hr4 := hr3.alloc (.cells (rtC y).toArray 46); have r0 := hr4.cell 0; have r1 := hr4.cell 1; have r2 := hr4.cell 2; have r3 := hr4.cell 3; have r4 := hr4.cell 4; have r5 := hr4.cell 5; have f0 := hr4.free 0; have f1 := hr4.free 1; have f2 := hr4.free 2; have f3 := hr4.free 3; have f4 := hr4.free 4; have f5 := hr4.free 5; have HR4 := hideIt hr4; have HM3 := hideIt (hm.new (.cells (rtC y).toArray 46)); have HK3 := hideIt (keepT_alloc (HK2.out.trans hk) HW.out (.cells (rtC y).toArray 46)); have HO3 := hideIt (own_new w3 w.heap.size (HK2.out.trans hk).size 46 (rtC y) 4 rfl); have HLT := hideIt hr3.lt; clear hm hk hx3 hy3 hr3 hr4))
  have hne3 : w3.heap.size ≠ w.heap.size := fun e => by have := HLT.out; omega
  refine bodyPost_ret (rln_ret [sv x.tx, .int .i64 (x.ps : Int), .int .i64 (x.kd : Int), .int .i64 (x.n : Int), .slice (some ⟨w3.heap.size, 0, none⟩) 1 1, .slice none 0 0] rfl rfl _ _ w.heap.size _ _ rfl
    ((((((HR4.out.store 0 (sv x.tx)).store 1 (.int .i64 (x.ps : Int))).store 2 (.int .i64 (x.kd : Int))).store 3 (.int .i64 (x.n : Int))).store 4 (.slice (some ⟨w3.heap.size, 0, none⟩) 1 1)).store 5 (.slice none 0 0)) Tryz.underlying112 rfl iln) rfl ⟨⟨_, rfl, _, _, rfl, ?_, RtS.nil _ _⟩, ?_, ?_⟩
  · exact own_set_at (own_set_at (own_set_at (own_set_at (own_set_at (own_set_at HO3.out hne3 _ _) hne3 _ _) hne3 _ _) hne3 _ _) hne3 _ _) hne3 _ _
  · exact (((((HM3.out.set_at HGR.out HPR.out _ _).set_at HGR.out HPR.out _ _).set_at HGR.out HPR.out _ _).set_at HGR.out HPR.out _ _).set_at HGR.out HPR.out _ _).set_at HGR.out HPR.out _ _
  · exact HK3.out.since (below_six (Nat.le_refl _) _ _ _ _ _ _) HW.out

/-- Lines in memory. -/
def LnsR (w : World) (C : Nat) (v : Value) (xs : List Ln) : Prop := ∃ css : List (List Value), w.ownsRow C 112 6 v xs.length css.flatten ∧ All2 (LnR w C) xs css
theorem LnR.imp {w w' : World} {C : Nat} (hT : ∀ v l, RtS w C v l → RtS w' C v l) (x : Ln) (cs : List Value) (h : LnR w C x cs) : LnR w' C x cs := by
  obtain ⟨va, vb, h1, h2, h3⟩ := h
  exact ⟨va, vb, h1, hT _ _ h2, hT _ _ h3⟩
theorem LnsR.imp {w w' : World} {C : Nat} {v : Value} {xs : List Ln} (hT : ∀ v l, RtS w C v l → RtS w' C v l) (ho : ∀ ys n, w.ownsRow C 112 6 v n ys → w'.ownsRow C 112 6 v n ys) (h : LnsR w C v xs) : LnsR w' C v xs := by
  obtain ⟨css, h1, h2⟩ := h
  exact ⟨css, ho _ _ h1, All2.imp (LnR.imp hT) h2⟩
section
variable {w w' : World} {C B : Nat} {v : Value} {xs : List Ln} {x : Ln} {cs : List Value}
theorem RtS.keepT' {l : List Tk} (h : RtS w C v l) (hk : KeepT B [84] w w') : RtS w' C v l := own_keepT h hk (by decide)
theorem LnsR.keepT (h : LnsR w C v xs) (hk : KeepT B [84] w w') : LnsR w' C v xs := h.imp (fun v l h => own_keepT h hk (by decide)) (fun ys n h => own_keepT h hk (by decide))
theorem LnR.keepT (h : LnR w C x cs) (hk : KeepT B [84] w w') : LnR w' C x cs := LnR.imp (fun v l h => own_keepT h hk (by decide)) x cs h
theorem LnsR.alloc (h : LnsR w C v xs) (o : Obj) : LnsR (w.alloc o) C v xs := h.imp (fun v l h => World.ownsRow.alloc h o) (fun ys n h => World.ownsRow.alloc h o)
theorem LnR.alloc (h : LnR w C x cs) (o : Obj) : LnR (w.alloc o) C x cs := LnR.imp (fun v l h => World.ownsRow.alloc h o) x cs h
theorem LnsR.kept (h : LnsR w C v xs) (hb : Below w.heap.size w w') : LnsR w' C v xs := h.imp (fun v l h => own_kept h hb) (fun ys n h => own_kept h hb)
theorem LnR.kept (h : LnR w C x cs) (hb : Below w.heap.size w w') : LnR w' C x cs := LnR.imp (fun v l h => own_kept h hb) x cs h
theorem LnsR.set {g : Nat} {t : TypeId} {cs : List Value} (h : LnsR w C v xs) (hb : Blk w g t cs) (h1 : t ≠ 46) (h2 : t ≠ 112) (i : Nat) (u : Value) : LnsR (w.setCell ⟨g, i, none⟩ u) C v xs :=
  h.imp (fun v l h => own_set h hb h1 i u) (fun ys n h => own_set h hb h2 i u)
theorem LnsR.low {C' : Nat} (h : LnsR w C v xs) (hC : C' ≤ C) : LnsR w C' v xs := by
  obtain ⟨css, h1, h2⟩ := h
  exact ⟨css, own_low h1 hC, All2.imp (fun x cs ⟨va, vb, e, a, b⟩ => ⟨va, vb, e, own_low a hC, own_low b hC⟩) h2⟩
theorem LnR.low {C' : Nat} (h : LnR w C x cs) (hC : C' ≤ C) : LnR w C' x cs := by
  obtain ⟨va, vb, e, a, b⟩ := h
  exact ⟨va, vb, e, own_low a hC, own_low b hC⟩
theorem LnsR.nil (w : World) (C : Nat) : LnsR w C (.slice none 0 0) [] := ⟨[], World.ownsRow_nil _ _ _ _, trivial⟩
theorem LnR.len (h : LnR w C x cs) : cs.length = 6 := by
  obtain ⟨va, vb, h1, _⟩ := h
  rw [h1]; rfl
theorem LnR.ones (h : LnR w C x cs) : ∀ u ∈ cs, u.oneCell' = true := by
  obtain ⟨va, vb, h1, h2, h3⟩ := h
  obtain ⟨A, c, rfl, _⟩ := own_form h2
  obtain ⟨A', c', rfl, _⟩ := own_form h3
  intro u hu
  rw [h1] at hu
  simp only [List.mem_cons, List.not_mem_nil, or_false] at hu
  rcases hu with rfl | rfl | rfl | rfl | rfl | rfl <;> rfl
end
/-- One more line: 'append(lines, line)', the line in a literal's own block. -/
theorem wpList_line {W : World} {ops : Array Oper} {rest : List Oper} {o : Oper} {a : Act} {Q : Exit → Act → World → Prop} (hgd : o.guard = none) (s y : Operand)
    (ho : o.op = .call { callee := .builtin .append, args := #[s, y], argTypes := #[85, 85] }) (C : Nat) (hC : C ≤ W.heap.size) (v : Value) (xs : List Ln) (h : LnsR W C v xs) (x : Ln) (cs : List Value) (hx : LnR W C x cs)
    (hlen : xs.length ≤ 1000000) (hs : a.eval s = v) (hy : a.eval y = .slice (some ⟨W.heap.size, 0, none⟩) 1 1)
    (hK : ∀ A n c w', LnsR w' C (.slice A n c) (xs ++ [x]) → Below C W w' → (∀ g t cs, t ≠ 112 → Blk W g t cs → Blk w' g t cs) → (∀ B v l, RtS W B v l → RtS w' B v l) → wpList Tryz.prog ops Q rest (a.put o.dst (.slice A n c)) w') :
    wpList Tryz.prog ops Q (o :: rest) a (W.alloc (.cells cs.toArray 112)) := by
  obtain ⟨i0, hi0, hz0, hz1, hz2⟩ := info_three (show (Tryz.prog.info? 112).map (fun i => (i.zero, i.size, i.bytes)) = some (some (.agg #[.string ⟨#[]⟩, .int .i64 0, .int .i64 0, .int .i64 0, .slice none 0 0, .slice none 0 0]), 6, 88) by kernel_rfl)
  obtain ⟨css, h1, h2⟩ := h
  refine wpList_app2 hgd s y 85 ho C 112 i0 _ 6 88 Tryz.underlying85 hi0 hz0 hz1 hz2 rfl (by decide) v xs.length css.flatten hs (World.ownsRow.alloc h1 _) _ _ 1 1 cs hy (sl_cells W 112 cs 6 hx.len) hx.ones (by unfold maxLen; omega) (by omega) (Nat.le_trans hC (below_new W _).size) ?_
  intro v' w' ho' hg'
  have hT : ∀ B v l, RtS (W.alloc (.cells cs.toArray 112)) B v l → RtS w' B v l := fun B v l h => World.ownsRow.kept h hg' (own_apart h (World.ownsRow.alloc h1 _) (by decide))
  have hT2 : ∀ B v l, RtS W B v l → RtS w' B v l := fun B v l h => hT B v l (World.ownsRow.alloc h _)
  obtain ⟨A', c', hv', _⟩ := own_form ho'
  subst hv'
  refine hK _ _ _ w' ⟨css ++ [cs], ?_, ?_⟩ ?_ ?_ hT2
  · rw [List.length_append, List.flatten_append]; simpa using ho'
  · exact All2.snoc (LnR.imp (hT2 C) x cs hx) (All2.imp (LnR.imp (hT2 C)) h2)
  · exact below_grown ((Below.refl _ _).alloc hC _) (World.ownsRow.alloc h1 _) (Nat.le_refl _) (Nat.le_trans hC (below_new W _).size) hg'
  · exact fun g t ds ht hb => (hb.alloc (.cells cs.toArray 112)).grown hg' (own_ne (World.ownsRow.alloc h1 (.cells cs.toArray 112)) (hb.alloc (.cells cs.toArray 112)) ht)
/-- A code as it is written, in memory. -/
def ScR (w : World) (C : Nat) (s : Sc) (cs : List Value) : Prop := ∃ v, cs = [sv s.name.tx, .int .i64 (s.name.ps : Int), .int .i64 (s.name.kd : Int), .int .i64 (s.name.n : Int), v] ∧ LnsR w C v s.lines
theorem isc : (Tryz.prog.info? 87).map (·.size) = some 5 := by kernel_rfl

/-- The parser while it reads a code: the code so far lies in a block of its own, the result's block waits. -/
structure CI (l : List Tk) (w W : World) (pb B g c sb : Nat) (S : PS) (nm : Tk) (vl : Value) (xs : List Ln) : Prop where
  ra : RA l W pb (.slice (some ⟨g, 0, none⟩) l.length c) S
  ln : LnsR W w.heap.size vl xs
  so : Blk W sb 87 [sv nm.tx, .int .i64 (nm.ps : Int), .int .i64 (nm.kd : Int), .int .i64 (nm.n : Int), vl]
  rb : Blk W w.heap.size 87 [.string ⟨#[]⟩, .int .i64 0, .int .i64 0, .int .i64 0, .slice none 0 0]
  kp : KeepT B [84] w W
  hB : B ≤ w.heap.size
  low : w.heap.size < sb
section
variable {l : List Tk} {w W W' : World} {pb B g c sb : Nat} {S S' : PS} {nm : Tk} {vl : Value} {xs : List Ln}
theorem CI.size (h : CI l w W pb B g c sb S nm vl xs) : w.heap.size ≤ W.heap.size := h.kp.size
theorem CI.bsize (h : CI l w W pb B g c sb S nm vl xs) : B ≤ W.heap.size := Nat.le_trans h.hB h.kp.size
theorem CI.call (h : CI l w W pb B g c sb S nm vl xs) (hm : RA l W' pb (.slice (some ⟨g, 0, none⟩) l.length c) S') (hk : KeepT B [84] W W') : CI l w W' pb B g c sb S' nm vl xs :=
  ⟨hm, h.ln.keepT hk, h.so.keepT hk (by decide), h.rb.keepT hk (by decide), h.kp.trans hk, h.hB, h.low⟩
theorem CI.asked (h : CI l w W pb B g c sb S nm vl xs) (hb : Below W.heap.size W W') : CI l w W' pb B g c sb S nm vl xs :=
  ⟨h.ra.kept hb, h.ln.kept hb, h.so.kept hb h.so.lt, h.rb.kept hb h.rb.lt, h.kp.trans (KeepT.of_below hb h.bsize), h.hB, h.low⟩
theorem CI.new (h : CI l w W pb B g c sb S nm vl xs) (o : Obj) : CI l w (W.alloc o) pb B g c sb S nm vl xs := h.asked (below_new W o)
theorem CI.drawn (h : CI l w W pb B g c sb S nm vl xs) : CI l w W.drew pb B g c sb S nm vl xs := h.asked (Below.refl _ _).drew
/-- One more line has been appended, and the code has it. -/
theorem CI.push (h : CI l w W pb B g c sb S nm vl xs) {v' : Value} {x : Ln} (hl : LnsR W' w.heap.size v' (xs ++ [x])) (hb : Below w.heap.size W W') (hk : ∀ g t cs, t ≠ 112 → Blk W g t cs → Blk W' g t cs) (hr : ∀ B v l, RtS W B v l → RtS W' B v l) :
    CI l w (W'.setCell ⟨sb, 4, none⟩ v') pb B g c sb S nm v' (xs ++ [x]) := by
  have hs := hk _ _ _ (by decide) h.so
  have hp := hk _ _ _ (by decide) h.ra.blk
  have hne := blk_ne hp hs (by decide)
  refine ⟨⟨hp.store_other hne, own_set (hr _ _ _ h.ra.tok) hs (by decide) 4 v'⟩, hl.set hs (by decide) (by decide) 4 v', hs.store 4 v', (hk _ _ _ (by decide) h.rb).store_other (by have := h.low; omega), (h.kp.since hb h.hB).since (below_set (Below.refl _ _) (Nat.le_of_lt h.low) _ _) h.hB, h.hB, h.low⟩
end
theorem row_i2 {l : List Tk} {S : PS} (h : (rowP l S).2.bad < 0) : S.i < (rowP l S).2.i := by
  have hn : ∀ s : PS, s.i ≤ (numsP l s).2.i := fun s => Nat.le_trans (mono_kind l 2 s) (mono_numsG l _ _ _)
  unfold rowP at h ⊢
  split
  · rename_i q
    have e : (mustP l kLocal S).i = S.i + 1 := by unfold mustP; rw [if_pos q]
    have := Nat.le_trans (hn (mustP l kLocal S)) (Nat.le_trans (mono_must l [58] _) (Nat.le_trans (hn _) (mono_must l [59] _)))
    dsimp only
    omega
  · rename_i q
    rw [if_neg q] at h
    obtain ⟨h1, _⟩ := mustP_ok h
    have h2 := numsP_ok h1
    obtain ⟨h3, _, h4⟩ := mustP_ok h2
    have e : (mustP l kParity S).i = S.i + 1 := by rw [h4]
    have := Nat.le_trans (hn (mustP l kParity S)) (mono_must l [59] _)
    dsimp only
    omega

end Go.Proofs.YtcogkdnlpjfgdaaGreatDoor
