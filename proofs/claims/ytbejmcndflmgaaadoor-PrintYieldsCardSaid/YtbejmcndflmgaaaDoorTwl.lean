/-
  The law's own iterator, which ranges over the program's one: twins, walked.
-/
import Derived.Test.YtbejmcndflmgaaaDoorTws
namespace Go.Proofs.YtbejmcndflmgaaaDoor
open Go.RowKit Go.Shelf
set_option linter.unusedVariables false
attribute [local go_sem] Oper.semAt_some

theorem Keeps.frozen {T : Nat → Prop} {a b : World} (h : Keeps T a b) {p : Addr} (hp : p.block < a.heap.size) (hn : ¬ T p.block) : b.frozen? p = a.frozen? p := World.frozen?_of_block (w := a) (h.block p.block hp hn)
theorem Keeps.narrow {T : Nat → Prop} {n : Nat} {W W0 V : World} (hb : Below W.heap.size W W0) (hn : W.heap.size ≤ n) (h : Keeps (fun k => T k ∨ k = n) W0 V) : Keeps T W V :=
  ⟨h.os.trans hb.os, h.tape.trans hb.tape, h.output.trans hb.output, Nat.le_trans hb.size h.size, fun k hk ht => (h.block k (Nat.lt_of_lt_of_le hk hb.size) (fun hh => hh.elim ht (fun e => by omega))).trans (hb.block k hk)⟩
theorem cell_two (W : World) (t t' : TypeId) (u v : Value) : ((W.alloc (.cells #[u] t)).alloc (.cells #[v] t')).cell? ⟨W.heap.size, 0, none⟩ = some u ∧ ((W.alloc (.cells #[u] t)).alloc (.cells #[v] t')).cell? ⟨W.heap.size + 1, 0, none⟩ = some v := by
  refine ⟨?_, ?_⟩
  · rw [World.cell?_of_block (w := W.alloc (.cells #[u] t)) (Below.heap_alloc _ _ _ (by simp))]
    exact cell_one W _ _
  · have := cell_one (W.alloc (.cells #[u] t)) t' v
    rwa [World.size_alloc] at this
theorem free_one (W : World) (t : TypeId) (v : Value) : (W.alloc (.cells #[v] t)).frozen? ⟨W.heap.size, 0, none⟩ = false := by
  have h := heap_alloc_new W (.cells #[v] t)
  simp only [World.frozen?, h]
  rfl

theorem run_eql_nilFunc {P : Program} {T : TypeId} {a1 a2 a3} (h : P.underlying T = some (.func a1 a2 a3)) (w : World) (f : Fn) (a c : Array Value) : (binOp .eql T (.func f a c) .nilFunc).run P w = .ok (.bool false) w := by
  obtain ⟨d, hd⟩ : ∃ d, Op.maxDepth = d + 1 := ⟨_, rfl⟩
  simp [binOp, Op.equal, hd, Op.equalIn, run_underlying h, Result.andThen, go_sem]

/-- What the law's iterator reads. -/
def capL (B b : Nat) : Prop := b = B + 1 ∨ capT B b

set_option maxHeartbeats 600000 in
set_option maxRecDepth 100000 in
theorem law_iter (l : List UInt8) (B : Nat) (w0 : World) (hT : Tabs w0) (hB : B + 1 < w0.heap.size) (hc : w0.cell? ⟨B, 0, none⟩ = some (.string (str l)))
    (hf : w0.cell? ⟨B + 1, 0, none⟩ = some (.func (.func 22) #[] #[.pointer (some ⟨B, 0, none⟩)])) :
    Iter Tryd.prog 18 #[.pointer (some ⟨B + 1, 0, none⟩)] (fun x : List UInt8 => #[.string (str x)]) (twinsL l) (capL B) w0 := by
  intro y T J Jx W hC hT1 hJ hJx hY h0
  have hBW : B + 1 < W.heap.size := lt_of_block (hC _ (Or.inl rfl)).1 (hC _ (Or.inl rfl)).2
  have hcW : W.cell? ⟨B + 1, 0, none⟩ = some (.func (.func 22) #[] #[.pointer (some ⟨B, 0, none⟩)]) := by
    rw [World.cell?_of_block (w := w0) (a := ⟨B + 1, 0, none⟩) (hC _ (Or.inl rfl)).2]; exact hf
  have HIT := hideIt (twins_iter l B w0 hT (by omega) hc)
  have HC := hideIt hC
  have HT1 := hideIt hT1
  have HJ := hideIt hJ
  have HJX := hideIt hJx
  have HY := hideIt hY
  have H0 := hideIt h0
  have HLN := hideIt (show (twinsL l).length ≤ 15968 by rw [twinsL_len]; have := spc_le l.length; omega)
  have HBW := hideIt hBW
  clear hC hT1 hJ hJx hY h0 hT hc hf hB
  refine callsIn_of_wp_marks Tryd.func18 rfl trivial ?_
  simp only [Tryd.ntmps18, List.size_toArray, List.length_cons, List.length_nil, Nat.reduceAdd, Nat.reduceSub, Array.replicate_succ, Array.replicate_zero, List.push_toArray, List.append_toArray, List.nil_append, List.cons_append]
  refine (wpIn_wide (n := 0)).2 ?_
  have hnf := fun (V : World) => run_eql_nilFunc (P := Tryd.prog) Tryd.underlying34 V (.func 22) #[] #[.pointer (some ⟨B, 0, none⟩)]
  have hcW2 : ((W.alloc (.cells #[.func (.yield y) #[] #[]] 38)).alloc (.cells #[.int .i64 0] 3)).cell? ⟨B + 1, 0, none⟩ = some (.func (.func 22) #[] #[.pointer (some ⟨B, 0, none⟩)]) :=
    ((((Below.refl W.heap.size W).alloc (Nat.le_refl _) _).alloc (by simp) _).cell (p := ⟨B + 1, 0, none⟩) hBW).trans hcW
  go_wp2_with fail
  clear hcW2
  obtain ⟨W0, hW0⟩ : ∃ W0, (W.alloc (.cells #[.func (.yield y) #[] #[]] 38)).alloc (.cells #[.int .i64 0] 3) = W0 := ⟨_, rfl⟩
  rw [hW0]
  have hz : W0.heap.size = W.heap.size + 2 := by rw [← hW0]; simp
  have hb : Below W.heap.size W W0 := by rw [← hW0]; exact ((Below.refl _ W).alloc (Nat.le_refl _) _).alloc (by simp) _
  have hct := cell_two W 38 3 (.func (.yield y) #[] #[]) (.int .i64 0)
  rw [hW0] at hct
  have hfr : W0.frozen? ⟨W.heap.size + 1, 0, none⟩ = false := by
    have := free_one (W.alloc (.cells #[.func (.yield y) #[] #[]] 38)) 3 (.int .i64 0)
    rwa [World.size_alloc, hW0] at this
  have q1 : ∀ k, capT B k → k < w0.heap.size ∧ W0.heap[k]? = w0.heap[k]? := fun k hk => by
    obtain ⟨h1, h2⟩ := HC.out k (Or.inr hk)
    exact ⟨h1, (hb.block k (lt_of_block h1 h2)).trans h2⟩
  have q2 : ∀ k, (T k ∨ k = W.heap.size + 1) → k < W0.heap.size ∧ ¬ capT B k := fun k hk => by
    rcases hk with hk | rfl
    · have h1 := HT1.out k hk
      exact ⟨by omega, fun hh => h1.2 (Or.inr hh)⟩
    · refine ⟨by omega, fun hh => ?_⟩
      obtain ⟨h1, h2⟩ := HC.out _ (Or.inr hh)
      have := lt_of_block h1 h2
      omega
  have q3 : Low W0.heap.size (fun (pre : List (List UInt8)) V => J pre V ∧ V.cell? ⟨W.heap.size + 1, 0, none⟩ = some (.int .i64 (pre.length : Int)) ∧ V.frozen? ⟨W.heap.size + 1, 0, none⟩ = false) := fun s A V h hb =>
    ⟨HJ.out _ _ _ h.1 (hb.mono (by omega)), (hb.cell (p := ⟨W.heap.size + 1, 0, none⟩) (by show W.heap.size + 1 < _; omega)).trans h.2.1, (hb.frozen (p := ⟨W.heap.size + 1, 0, none⟩) (by show W.heap.size + 1 < _; omega)).trans h.2.2⟩
  have q4 : ∀ c, Low W0.heap.size (fun (pre : List (List UInt8)) V => c = Code.ret ∧ Jx pre V) := fun c s A V h hb => ⟨h.1, HJX.out _ _ _ h.2 (hb.mono (by omega))⟩
  have Q1 := hideIt q1
  have Q2 := hideIt q2
  have Q3 := hideIt q3
  have Q4 := hideIt q4
  have HB0 := hideIt hb
  have HCT := hideIt hct
  have HFR := hideIt hfr
  have HZ := hideIt hz
  have H00 := hideIt (HJ.out _ _ _ H0.out hb)
  clear q1 q2 q3 q4 hb hct hfr hz hW0 hnf hcW
  refine range_any (gf := 22) (lb := #[.pointer (some ⟨B, 0, none⟩)]) rfl (enters_of Tryd.func22 (by kernel_rfl) rfl) HIT.out Q1.out (fun _ => rfl) (fun k => T k ∨ k = W.heap.size + 1) Q2.out
    (fun pre V => J pre V ∧ V.cell? ⟨W.heap.size + 1, 0, none⟩ = some (.int .i64 (pre.length : Int)) ∧ V.frozen? ⟨W.heap.size + 1, 0, none⟩ = false) (fun c pre V => c = Code.ret ∧ Jx pre V) Q3.out Q4.out ⟨H00.out, HCT.out.2, HFR.out⟩ ?a1 ?assign ?body ?done ?stop
  case assign =>
    intro l' x V K hK
    have HK2 := hideIt hK
    clear hK
    gi_wp2
    exact HK2.out
  case body =>
    rintro l' pre x V hpre hKV ⟨hj, hn, hf⟩
    have hlen : pre.length + 1 ≤ 15968 := by
      have h1 := hpre.length_le
      have h2 := HLN.out
      simp only [List.length_append, List.length_cons, List.length_nil] at h1
      omega
    have hyc : V.cell? ⟨W.heap.size, 0, none⟩ = some (.func (.yield y) #[] #[]) := by
      rw [hKV.cell (p := ⟨W.heap.size, 0, none⟩) (by have := HZ.out; show W.heap.size < _; omega) (fun hh => by
        rcases hh with hh | hh
        · have := (HT1.out _ hh).1; exact absurd this (by show ¬ W.heap.size < _; omega)
        · exact absurd hh (by show ¬ W.heap.size = _; omega))]
      exact HCT.out.1
    have hinc := inc_c 3 pre.length (by omega)
    obtain ⟨m1, hm1⟩ : ∃ m1, m1 = pre.length + 1 := ⟨_, rfl⟩
    rw [← hm1] at hinc
    have hKW := Keeps.narrow HB0.out (by omega) hKV
    have hB1 : Below W.heap.size V (V.setCell ⟨W.heap.size + 1, 0, none⟩ (.int .i64 (m1 : Int))) := (Below.refl _ V).setCell (p := ⟨W.heap.size + 1, 0, none⟩) (by show W.heap.size ≤ W.heap.size + 1; omega) _
    have hYY := HY.out pre x _ hpre (hKW.later hB1) (HJ.out _ _ _ hj hB1)
    obtain ⟨fn, tmps, assign, body, hy, hR⟩ := YieldAt.inside (l' := l') 0 hYY
    have h20 : ¬ (20000 : Int) < (m1 : Int) := by omega
    have HM1 := hideIt hm1
    have HK1 := hideIt (show Keeps (fun k => T k ∨ k = W.heap.size + 1) V (V.setCell ⟨W.heap.size + 1, 0, none⟩ (.int .i64 (m1 : Int))) from (Keeps.refl _ V).setCell (p := ⟨W.heap.size + 1, 0, none⟩) (Or.inr rfl) _)
    have hlt1 : W.heap.size + 1 < (V.setCell ⟨W.heap.size + 1, 0, none⟩ (.int .i64 (m1 : Int))).heap.size := by
      have := HZ.out
      have := hKV.size
      have : (V.setCell ⟨W.heap.size + 1, 0, none⟩ (.int .i64 (m1 : Int))).heap.size = V.heap.size := by simp [World.setCell]
      omega
    have HLT := hideIt hlt1
    have HCM := hideIt (show (V.setCell ⟨W.heap.size + 1, 0, none⟩ (.int .i64 (m1 : Int))).cell? ⟨W.heap.size + 1, 0, none⟩ = some (.int .i64 (m1 : Int)) from World.cell?_setCell_same' _ _ _ (by rw [hn]; rfl))
    have HFM := hideIt (show (V.setCell ⟨W.heap.size + 1, 0, none⟩ (.int .i64 (m1 : Int))).frozen? ⟨W.heap.size + 1, 0, none⟩ = false by rw [World.frozen?_setCell]; exact hf)
    have HNT := hideIt (show ¬ T (W.heap.size + 1) from fun hh => by have := (HT1.out _ hh).1; omega)
    clear hm1 hKW hB1 hYY hlen hpre hKV hj hlt1
    generalize str x = s at *
    gi_wp2_with fail
    refine ⟨rfl, ?_⟩
    refine hR.mono ?_
    rintro e W3 (⟨rfl, hK3, hJ3⟩ | ⟨rfl, hK3, hJx3⟩)
    · have HA := hideIt (HK1.out.trans (hK3.wide fun k hk => Or.inl hk))
      have HCB := hideIt (show W3.cell? ⟨W.heap.size + 1, 0, none⟩ = some (.int .i64 ((pre ++ [x]).length : Int)) by
        rw [hK3.cell (p := ⟨W.heap.size + 1, 0, none⟩) HLT.out HNT.out, HCM.out, HM1.out]; simp)
      have HCF := hideIt ((hK3.frozen (p := ⟨W.heap.size + 1, 0, none⟩) HLT.out HNT.out).trans HFM.out)
      have HJ3 := hideIt hJ3
      clear hK3 hJ3 hR hy
      gi_wp2_with fail
      exact ⟨HA.out, HJ3.out, HCB.out, HCF.out⟩
    · have HA := hideIt (HK1.out.trans (hK3.wide fun k hk => Or.inl hk))
      have HJ3 := hideIt hJx3
      clear hK3 hJx3 hR hy
      gi_wp2_with fail
      exact ⟨HA.out, rfl, HJ3.out⟩
  case done =>
    rintro D V hD hKV ⟨hj, _, _⟩ hDf
    have HK := hideIt (Keeps.narrow HB0.out (by omega) hKV)
    have HJ1 := hideIt hj
    have HDF := hideIt hDf
    have HD := hideIt (show W.heap.size ≤ D by have := HZ.out; omega)
    clear hj hDf hKV hD
    go_wp2_with fail
    refine ⟨by simp, .inl ⟨_, _, rfl, run_takeDeferred HDF.out, ?_⟩⟩
    exact ⟨_, results_none rfl _ _ _, ⟨_, rfl⟩, HK.out.later (below_putObj V HD.out _), .inl (HJ.out _ _ _ HJ1.out (below_putObj V HD.out _))⟩
  case stop =>
    rintro D c pre V hD hKV hpre ⟨rfl, hjx⟩ hDf
    have HK := hideIt (Keeps.narrow HB0.out (by omega) hKV)
    have HJ1 := hideIt hjx
    have HDF := hideIt hDf
    have HP := hideIt hpre
    have HD := hideIt (show W.heap.size ≤ D by have := HZ.out; omega)
    clear hjx hDf hKV hD hpre
    go_wp2_with fail
    refine ⟨by simp, .inl ⟨_, _, rfl, run_takeDeferred HDF.out, ?_⟩⟩
    exact ⟨_, results_none rfl _ _ _, ⟨_, rfl⟩, HK.out.later (below_putObj V HD.out _), .inr ⟨_, HP.out, HJX.out _ _ _ HJ1.out (below_putObj V HD.out _)⟩⟩

end Go.Proofs.YtbejmcndflmgaaaDoor
