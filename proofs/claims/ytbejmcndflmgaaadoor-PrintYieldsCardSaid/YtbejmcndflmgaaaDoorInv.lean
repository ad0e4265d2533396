/-
  The iterator over the bits in which a string differs from its twin: inverted, walked.
-/
import Derived.Test.YtbejmcndflmgaaaDoorPrtW
import Derived.Shelf.RegionOpen
import Derived.OwnWalkIn
import Derived.TacticsInMore
import Derived.LoopNIn
import Derived.LoopIn
namespace Go.Proofs.YtbejmcndflmgaaaDoor
open Go.RowKit Go.Shelf
set_option linter.unusedVariables false
attribute [local go_sem] Oper.semAt_some

/-- The exponents in the order of the program. -/
def exN : List Nat := [32, 28, 27, 26, 25, 23, 22, 20, 19, 18, 14, 13, 11, 10, 9, 8, 6, 0]
/-- The bits of the k-th twin, in the order of the program. -/
def bitsOf (k : Nat) : List Nat := exN.map fun g => k + 32 - g
theorem bits_len (k : Nat) : (bitsOf k).length = 18 := by unfold bitsOf exN; simp
theorem bits_le (k : Nat) : ∀ x ∈ bitsOf k, x ≤ k + 32 := fun x hx => by
  unfold bitsOf at hx
  obtain ⟨g, _, rfl⟩ := List.mem_map.1 hx
  omega
theorem ex_nat (j : Nat) (h : j < 18) : ex18.getD j 0 = ((exN.getD j 0 : Nat) : Int) ∧ exN.getD j 0 ≤ 32 := by
  have : ∀ j : Fin 18, ex18.getD j.val 0 = ((exN.getD j.val 0 : Nat) : Int) ∧ exN.getD j.val 0 ≤ 32 := by decide +kernel
  exact this ⟨j, h⟩
theorem bits_at (k j : Nat) (h : j < 18) : (bitsOf k)[j]'(by rw [bits_len]; exact h) = k + 32 - exN.getD j 0 := by
  unfold bitsOf
  rw [List.getElem_map, List.getD_eq_getElem?_getD, List.getElem?_eq_getElem (by show j < 18; exact h)]
  rfl
theorem take_pre {α : Type} (l : List α) (j : Nat) (h : j < l.length) : l.take j ++ [l[j]] <+: l := by
  rw [← take_snoc l j h]; exact List.take_prefix _ _

theorem add32_c (t : TypeId) (k : Nat) (h : k ≤ 100000) : binOp .add t (.int .i64 (k : Int)) (.int .i64 32) = pure (.int .i64 ((k + 32 : Nat) : Int)) := by
  rw [binOp_add]
  simp only [Op.intArith]
  rw [IntWalk.i64_in _ (by omega)]
  rfl
theorem subg_c (t : TypeId) (m g : Nat) (h : m ≤ 200000) (hg : g ≤ m) : binOp .sub t (.int .i64 (m : Int)) (.int .i64 (g : Int)) = pure (.int .i64 ((m - g : Nat) : Int)) := by
  rw [binOp_sub]
  simp only [Op.intArith]
  rw [IntWalk.i64_in _ (by omega), Int.ofNat_sub hg]
theorem inc_c (t : TypeId) (k : Nat) (h : k ≤ 200000) : binOp .add t (.int .i64 (k : Int)) (.int .i64 1) = pure (.int .i64 ((k + 1 : Nat) : Int)) := by
  rw [binOp_add]
  simp only [Op.intArith]
  rw [IntWalk.i64_in _ (by omega)]
  rfl

/-- A load, of whatever kind. -/
theorem wpList_loadv {P : Program} {ops : Array Oper} {rest : List Oper} {o : Oper} {a : Act} {w : World} {Q : Exit → Act → World → Prop} (hw : Region.wanted o (yielded ops a.tmps) = true) (ty : TypeId) (x : Operand) (ho : o.op = .load ty x) (v : Value)
    (hrun : (Instr.loadAt ty (a.eval x)).run P w = .ok v w) (h : wpList P ops Q rest (a.put o.dst v) w) : wpList P ops Q (o :: rest) a w := by
  refine wpList_wanted hw ?_
  unfold Oper.wp execOp
  simp only [ho, Sem.run_bind, hrun, Result.andThen_ok, Sem.run_pure]
  exact h

theorem inverted_any (k : Int) (w : World) :
    Calls Tryd.prog 20 #[.int .i64 k] w fun e w' => e = .returned (.func (.func 23) #[] #[.pointer (some ⟨w.heap.size, 0, none⟩)]) ∧ w' = w.alloc (.cells #[.int .i64 k] 3) := by
  go_enter Tryd.func20, Tryd.ntmps20
  go_wp2_with fail
  go_ret
  exact ⟨rfl, rfl⟩

theorem load18 (w : World) (hT : Tabs w) : (Instr.loadAt 45 (.pointer (some ⟨0, 0, none⟩))).run Tryd.prog w = .ok (.agg (ex18.map iv).toArray) w :=
  run_loadAt_mid w _ 0 _ (ex18.map iv) _ (fun j v hv => by
    obtain ⟨hj, hv2⟩ := List.getElem?_eq_some_iff.1 hv
    have hj2 : j < 18 := hj
    rw [Nat.zero_add, hT.ex j hj2, ← hv2, List.getElem_map, List.getD_eq_getElem?_getD, List.getElem?_eq_getElem (by exact hj2)]
    rfl) Tryd.underlying45 rfl (by kernel_rfl)
theorem index_arr {P : Program} {T e : TypeId} {n : Nat} (hT : P.underlying T = some (.array n e)) (he : P.plainKey e = true) (hs : ∀ w, (sizeOf e).run P w = .ok 1 w) (cs : Array Value) (j : Nat) (hj : j < n) (v : Value) (hv : cs[j]? = some v) (W : World) :
    (Instr.index T (.agg cs) (.int .i64 (j : Int))).run P W = .ok v W := by
  have h1 : (0 : Int) ≤ (j : Int) ∧ (j : Int) < (n : Int) := by omega
  have h2 := run_part_plain (w := W) he hv
  simpa [Instr.index, run_underlying hT, asIntOf, Sem.run_bind, hs, hj, Result.andThen, go_sem] using h2
theorem index18 (j : Nat) (h : j < 18) (W : World) : (Instr.index 45 (.agg (ex18.map iv).toArray) (.int .i64 (j : Int))).run Tryd.prog W = .ok (iv (ex18.getD j 0)) W := by
  refine index_arr Tryd.underlying45 (by kernel_rfl) Tryd.sizeOf3 _ j h _ ?_ W
  have hj : j < ex18.length := h
  rw [List.getElem?_toArray, List.getElem?_map, List.getElem?_eq_getElem hj, List.getD_eq_getElem?_getD, List.getElem?_eq_getElem hj]
  rfl

set_option maxHeartbeats 400000 in
set_option maxRecDepth 100000 in
/-- inverted's function value is an iterator: the bits of the k-th twin. -/
theorem inv_iter (k : Nat) (hk : k ≤ 100000) (B : Nat) (w0 : World) (hT : Tabs w0) (hB : B < w0.heap.size) (hc : w0.cell? ⟨B, 0, none⟩ = some (.int .i64 (k : Int))) :
    Iter Tryd.prog 23 #[.pointer (some ⟨B, 0, none⟩)] (fun x : Nat => #[.int .i64 (x : Int)]) (bitsOf k) (fun b => b = B ∨ b = 0) w0 := by
  intro l T J Jx W hC hT1 hJ hJx hY h0
  have hcB : ∀ V : World, Keeps T W V → V.cell? ⟨B, 0, none⟩ = some (.int .i64 (k : Int)) := fun V hV => by
    have h1 := hC B (Or.inl rfl)
    have hlt : B < W.heap.size := by
      rw [Array.getElem?_eq_getElem h1.1] at h1
      exact (Array.getElem?_eq_some_iff.1 h1.2).1
    rw [hV.cell (p := ⟨B, 0, none⟩) hlt (fun h => (hT1 B h).2 (Or.inl rfl)), World.cell?_of_block (w := w0) (a := ⟨B, 0, none⟩) h1.2]
    exact hc
  have hld : (Instr.loadAt 45 (.pointer (some ⟨0, 0, none⟩))).run Tryd.prog W = .ok (.agg (ex18.map iv).toArray) W := by
    have h1 := hC 0 (Or.inr rfl)
    refine run_loadAt_mid W _ 0 _ (ex18.map iv) _ (fun j v hv => ?_) Tryd.underlying45 rfl (by kernel_rfl)
    obtain ⟨hj, hv2⟩ := List.getElem?_eq_some_iff.1 hv
    have hj2 : j < 18 := hj
    rw [Nat.zero_add, World.cell?_of_block (w := w0) (a := ⟨0, j, none⟩) h1.2, hT.ex j hj2, ← hv2, List.getElem_map, List.getD_eq_getElem?_getD, List.getElem?_eq_getElem (by exact hj2)]
    rfl
  have hix := index18
  obtain ⟨C, hC18⟩ : ∃ C, C = (ex18.map iv).toArray := ⟨_, rfl⟩
  rw [← hC18] at hld
  simp only [← hC18] at hix
  have HX := hideIt hix
  have HL := hideIt hld
  have HB := hideIt hcB
  have HY := hideIt hY
  have H0 := hideIt h0
  clear hld hC hT1 hJ hJx hY h0 hC18 hix hcB hT hc
  refine callsIn_of_wp Tryd.func23 rfl trivial ?_
  simp only [Tryd.ntmps23, List.size_toArray, List.length_cons, List.length_nil, Nat.reduceAdd, Nat.reduceSub, Array.replicate_succ, Array.replicate_zero, List.push_toArray, List.append_toArray, List.nil_append, List.cons_append]
  refine (wpIn_wide (n := 0)).2 ?_
  go_wp2_with ((with_reducible refine at_load ?_); refine wpList_loadv rfl 45 (.global 0) rfl _ HL.out ?_)
  refine (wpIn_wide (n := 0)).1 ?_
  gi_loopw [6] (fun i wr => ∃ j : Nat, j ≤ 18 ∧ i = .int .i64 j ∧ J ((bitsOf k).take j) wr ∧ Keeps T W wr) (fun i _ => 18 - (intOf i).toNat)
  case atStart => exact ⟨0, by omega, rfl, H0.out, Keeps.refl T W⟩
  case round =>
    obtain ⟨j, hj, rfl, hJs, hKs⟩ := hrel
    by_cases hlt : j < 18
    · have hxj := HX.out j hlt
      obtain ⟨he1, he2⟩ := ex_nat j hlt
      have hbj := bits_at k j hlt
      have hpre := take_pre (bitsOf k) j (by rw [bits_len]; exact hlt)
      have hsn : (bitsOf k).take (j + 1) = (bitsOf k).take j ++ [(bitsOf k)[j]'(by rw [bits_len]; exact hlt)] := take_snoc _ _ _
      rw [hbj] at hpre hsn
      rw [he1] at hxj
      have hcell := HB.out _ hKs
      obtain ⟨g, hg⟩ : ∃ g, g = exN.getD j 0 := ⟨_, rfl⟩
      rw [← hg] at he2 hpre hsn hxj
      have hadd := add32_c 3 k hk
      have hsub := subg_c 3 (k + 32) g (by omega) (by omega)
      obtain ⟨m, hm⟩ : ∃ m, m = k + 32 := ⟨_, rfl⟩
      rw [← hm] at hadd hsub hpre hsn
      obtain ⟨x, hx⟩ : ∃ x, x = m - g := ⟨_, rfl⟩
      rw [← hx] at hsub hpre hsn
      have HSN := hideIt hsn
      have hinc := inc_c 3 j (by omega)
      obtain ⟨fn, tmps, assign, body, hy, hR⟩ := HY.out _ x wr hpre hKs hJs
      have hji : (j : Int) < 18 := by omega
      clear he1 hbj hpre hsn hg hm hx
      gi_wp2
      refine ⟨rfl, ?_⟩
      refine hR.mono ?_
      rintro e W3 (⟨rfl, hK3, hJ3⟩ | ⟨rfl, hK3, hJx3⟩)
      · gi_wp2
        go_roundw
        case rel => exact ⟨j + 1, by omega, by go_num, by rw [HSN.out]; exact hJ3, hKs.trans hK3⟩
        case measure => simp [intOf]; omega
      · gi_wp2
        refine bodyPost_ret (results_none rfl _ _ _) rfl ?_
        exact ⟨⟨_, rfl⟩, hKs.trans hK3, .inr ⟨_, by rw [← HSN.out]; exact List.take_prefix _ _, hJx3⟩⟩
    · have hji : ¬ (j : Int) < 18 := by omega
      obtain rfl : j = 18 := by omega
      rw [List.take_of_length_le (by rw [bits_len]; omega)] at hJs
      gi_wp2
      go_end0
      exact ⟨⟨_, rfl⟩, hKs, .inl hJs⟩

end Go.Proofs.YtbejmcndflmgaaaDoor
