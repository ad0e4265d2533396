/-
  The comparison of two plans, walked.
-/
import Derived.Test.YtklngodlijiccaaDoorRepH
namespace Go.Proofs.YtklngodlijiccaaDoor
open Go.RowKit
set_option linter.unusedVariables false
set_option linter.unusedSimpArgs false

/-- By the sign: is the first plan better? -/
def SgB (a b : TL) (r : Int) : Prop := decide (r < 0) = bt a b
theorem preads_any (u : Int) (L : TL) (hl : L.length ≤ 1000) (A : Option Addr) (c : Nat) (w : World) (h : Sl w w.heap.size A 2 L.length (tcs L)) :
    Calls Tryd.prog 18 #[.agg #[.int .i64 u, .slice A L.length c]] w fun e w' => ∃ D cd, e = .returned (.slice D L.length cd) ∧ Sl w' w'.heap.size D 1 L.length ((L.map fun t => (t.1 : Int)).map iv) ∧ Below w.heap.size w w' := by
  have := reads_any u (zt L) (by rw [List.length_map]; exact hl) A c w (by rw [zcs_tcs, List.length_map]; exact h)
  have e : (zt L).map (·.1) = L.map fun t => (t.1 : Int) := by rw [List.map_map]; rfl
  rw [e, List.length_map] at this
  refine this.mono ?_
  rintro e w' ⟨D, cd, rfl, hs, hb⟩
  rw [List.length_map] at hs
  exact ⟨D, cd, by rw [List.length_map], hs, hb⟩
set_option maxHeartbeats 2000000 in
set_option maxRecDepth 100000 in
theorem cmpp_any (u v : Int) (a b : TL) (hla : a.length ≤ 1000) (hlb : b.length ≤ 1000) (A B : Option Addr) (ca cb : Nat) (w : World) (hA : Sl w w.heap.size A 2 a.length (tcs a)) (hB : Sl w w.heap.size B 2 b.length (tcs b)) :
    Calls Tryd.prog 36 #[.agg #[.int .i64 u, .slice A a.length ca], .agg #[.int .i64 v, .slice B b.length cb]] w fun e w' => (∃ r : Int, e = .returned (.int .i64 r) ∧ SgB a b r) ∧ Below w.heap.size w w' := by
  obtain ⟨W1, hW1⟩ : ∃ W, W = w.alloc (.cells #[.int .i64 u, .slice A a.length ca] 30) := ⟨_, rfl⟩
  obtain ⟨W, hW⟩ : ∃ W, W = W1.alloc (.cells #[.int .i64 v, .slice B b.length cb] 30) := ⟨_, rfl⟩
  have hb1 : Below w.heap.size w W1 := by rw [hW1]; exact below_new w _
  have hb2 : Below W1.heap.size W1 W := by rw [hW]; exact below_new W1 _
  have hbw := hb1.trans (hb2.mono hb1.size)
  have hs1 : W1.heap.size = w.heap.size + 1 := by rw [hW1]; simp
  have HB := hideIt hbw
  have HP1 := hideIt (show Blk W w.heap.size 30 [.int .i64 u, .slice A a.length ca] by
    have h := Blk.new w 30 [.int .i64 u, .slice A a.length ca]
    rw [← hW1] at h
    exact h.kept hb2 h.lt)
  have HP2 := hideIt (show Blk W (w.heap.size + 1) 30 [.int .i64 v, .slice B b.length cb] by
    rw [← hs1, hW]; exact Blk.new W1 30 [.int .i64 v, .slice B b.length cb])
  have HRA := hideIt (fun (W2 : World) (h : Below W.heap.size W W2) => preads_any u a hla A ca W2 ((((hA.below hbw).wide hbw.size).below h).wide h.size))
  have HRB := hideIt (fun (W2 : World) (h : Below W.heap.size W W2) => preads_any v b hlb B cb W2 ((((hB.below hbw).wide hbw.size).below h).wide h.size))
  have HCM := hideIt (fun (W2 : World) => compare_any (a.length : Int) (b.length : Int) W2)
  have HBT := hideIt (show ∀ r, r = orZ [cmpZ (a.length : Int) (b.length : Int), cmpL (a.map fun t => (t.1 : Int)) (b.map fun t => (t.1 : Int))] → SgB a b r from fun r hr => by unfold SgB; rw [hr]; exact cmp_bt a b)
  obtain ⟨na, hna⟩ : ∃ n, n = a.length := ⟨_, rfl⟩
  obtain ⟨nb, hnb⟩ : ∃ n, n = b.length := ⟨_, rfl⟩
  have HCL := hideIt (fun (W2 : World) (D E : Option Addr) (cd ce : Nat) (h1 : Sl W2 W2.heap.size D 1 na ((a.map fun t => (t.1 : Int)).map iv)) (h2 : Sl W2 W2.heap.size E 1 nb ((b.map fun t => (t.1 : Int)).map iv)) => show Calls Tryd.prog 39 #[.slice D na cd, .slice E nb ce] W2 (fun e w' => e = .returned (.int .i64 (cmpL (a.map fun t => (t.1 : Int)) (b.map fun t => (t.1 : Int)))) ∧ W2 = w') by
    have := cmpsl_any (a.map fun t => (t.1 : Int)) (b.map fun t => (t.1 : Int)) (by rw [List.length_map]; exact hla) (by rw [List.length_map]; exact hlb) D E cd ce W2 (by rw [List.length_map, ← hna]; exact h1) (by rw [List.length_map, ← hnb]; exact h2)
    rw [List.length_map, List.length_map, ← hna, ← hnb] at this
    exact this)
  rw [← hna] at HP1 HRA HCM HBT hW1 ⊢
  rw [← hnb] at HP2 HRB HCM HBT hW ⊢
  generalize cmpL (a.map fun t => (t.1 : Int)) (b.map fun t => (t.1 : Int)) = z at *
  generalize cmpZ (na : Int) (nb : Int) = y at *
  have HOR := hideIt (fun (W2 : World) => show Calls Tryd.prog 37 #[.slice (some ⟨W2.heap.size, 0, none⟩) 2 2] (W2.alloc (.cells #[.int .i64 y, .int .i64 z] 3)) (fun e w' => e = .returned (.int .i64 (orZ [y, z])) ∧ (W2.alloc (.cells #[.int .i64 y, .int .i64 z] 3)) = w') from
    or_any [y, z] (by simp) (some ⟨W2.heap.size, 0, none⟩) 2 _ (sl_blk9 (Blk.new W2 3 [.int .i64 y, .int .i64 z]) rfl))
  have HWE1 := hideIt hW1
  have HWE := hideIt hW
  have HKS := hideIt (fun (W2 : World) (bb : Array Bool) (h : Below W.heap.size W W2) => show Hooks [(14, fun W => W.cell? ⟨w.heap.size, 1, none⟩ = some (.slice A na ca)), (14, fun W => W.cell? ⟨w.heap.size + 1, 1, none⟩ = some (.slice B nb cb)), (14, fun W => Blk W w.heap.size 30 [.int .i64 u, .slice A na ca]), (14, fun W => Blk W (w.heap.size + 1) 30 [.int .i64 v, .slice B nb cb])] bb W2 from
    Hooks.add ((HP1.out.kept h HP1.out.lt).cell 1) (Hooks.add ((HP2.out.kept h HP2.out.lt).cell 1) (Hooks.add (HP1.out.kept h HP1.out.lt) (Hooks.add (HP2.out.kept h HP2.out.lt) (Hooks.nil bb W2)))))
  have GD := hideIt (Below.refl W.heap.size W).drew
  clear hb1 hb2 hbw hs1 hA hB hW hW1 hna hnb
  go_enter Tryd.func36, Tryd.ntmps36
  go_wp2_with fail
  rw [← HWE1.out, ← HWE.out]
  refine loads_begin_n 15 [(14, fun W => W.cell? ⟨w.heap.size, 1, none⟩ = some (.slice A na ca)), (14, fun W => W.cell? ⟨w.heap.size + 1, 1, none⟩ = some (.slice B nb cb)), (14, fun W => Blk W w.heap.size 30 [.int .i64 u, .slice A na ca]), (14, fun W => Blk W (w.heap.size + 1) 30 [.int .i64 v, .slice B nb cb])] rfl (by kernel_rfl) ?_
  try simp only [Act.put]
  try simp only [List.setIfInBounds_toArray]
  try simp only [List.set_cons_succ]
  try simp only [List.set_cons_zero]
  refine wpAnyL_move (oi := ⟨some 5, _, _, _, _, _⟩) 0 ?_ rfl (by kernel_rfl) (by kernel_rfl) (by kernel_rfl) (by kernel_rfl) (fun _ _ _ h => h) (by kernel_rfl) ?_ ((HKS.out _ _ GD.out)) ?_
  rotate_left
  · intro W'; go_simp; first | done | with_reducible rfl
  try simp only [Act.put]
  try simp only [List.setIfInBounds_toArray]
  try simp only [List.set_cons_succ]
  try simp only [List.set_cons_zero]
  refine wpAnyL_take (oi := ⟨some 6, _, _, _, _, _⟩) 1 14 (.slice A na ca) _ rfl (by kernel_rfl) (by kernel_rfl) (by kernel_rfl) (by kernel_rfl) (by kernel_rfl) (by kernel_rfl) (.head _) (fun _ _ _ h => h) (by kernel_rfl) (fun W' hW' => by (try dsimp only at hW'); go_simp) (HKS.out _ _ GD.out) ?_
  try simp only [Act.put]
  try simp only [List.setIfInBounds_toArray]
  try simp only [List.set_cons_succ]
  try simp only [List.set_cons_zero]
  refine wpAnyL_move (oi := ⟨some 7, _, _, _, _, _⟩) 2 ?_ rfl (by kernel_rfl) (by kernel_rfl) (by kernel_rfl) (by kernel_rfl) (fun _ _ _ h => h) (by kernel_rfl) ?_ ((HKS.out _ _ GD.out)) ?_
  rotate_left
  · intro W'; go_simp; first | done | with_reducible rfl
  try simp only [Act.put]
  try simp only [List.setIfInBounds_toArray]
  try simp only [List.set_cons_succ]
  try simp only [List.set_cons_zero]
  refine wpAnyL_move (oi := ⟨some 8, _, _, _, _, _⟩) 3 ?_ rfl (by kernel_rfl) (by kernel_rfl) (by kernel_rfl) (by kernel_rfl) (fun _ _ _ h => h) (by kernel_rfl) ?_ ((HKS.out _ _ GD.out)) ?_
  rotate_left
  · intro W'; go_simp; first | done | with_reducible rfl
  try simp only [Act.put]
  try simp only [List.setIfInBounds_toArray]
  try simp only [List.set_cons_succ]
  try simp only [List.set_cons_zero]
  refine wpAnyL_take (oi := ⟨some 9, _, _, _, _, _⟩) 4 14 (.slice B nb cb) _ rfl (by kernel_rfl) (by kernel_rfl) (by kernel_rfl) (by kernel_rfl) (by kernel_rfl) (by kernel_rfl) (.tail _ (.head _)) (fun _ _ _ h => h) (by kernel_rfl) (fun W' hW' => by (try dsimp only at hW'); go_simp) (HKS.out _ _ GD.out) ?_
  try simp only [Act.put]
  try simp only [List.setIfInBounds_toArray]
  try simp only [List.set_cons_succ]
  try simp only [List.set_cons_zero]
  refine wpAnyL_move (oi := ⟨some 10, _, _, _, _, _⟩) 5 ?_ rfl (by kernel_rfl) (by kernel_rfl) (by kernel_rfl) (by kernel_rfl) (fun _ _ _ h => h) (by kernel_rfl) ?_ ((HKS.out _ _ GD.out)) ?_
  rotate_left
  · intro W'; go_simp; first | done | with_reducible rfl
  try simp only [Act.put]
  try simp only [List.setIfInBounds_toArray]
  try simp only [List.set_cons_succ]
  try simp only [List.set_cons_zero]
  refine wpAnyL_take (oi := ⟨some 12, _, _, _, _, _⟩) 7 14 (.agg #[.int .i64 u, .slice A na ca]) _ rfl (by kernel_rfl) (by kernel_rfl) (by kernel_rfl) (by kernel_rfl) (by kernel_rfl) (by kernel_rfl) (.tail _ (.tail _ (.head _))) (fun _ _ _ h => h) (by kernel_rfl) (fun W' hW' => exec_load_blk (cs := [.int .i64 u, .slice A na ca]) rfl rfl hW' _ Tryd.underlying30 rfl iszP) (HKS.out _ _ GD.out) ?_
  try simp only [Act.put]
  try simp only [List.setIfInBounds_toArray]
  try simp only [List.set_cons_succ]
  try simp only [List.set_cons_zero]
  refine wpAnyL_take (oi := ⟨some 14, _, _, _, _, _⟩) 9 14 (.agg #[.int .i64 v, .slice B nb cb]) _ rfl (by kernel_rfl) (by kernel_rfl) (by kernel_rfl) (by kernel_rfl) (by kernel_rfl) (by kernel_rfl) (.tail _ (.tail _ (.tail _ (.head _)))) (fun _ _ _ h => h) (by kernel_rfl) (fun W' hW' => exec_load_blk (cs := [.int .i64 v, .slice B nb cb]) rfl rfl hW' _ Tryd.underlying30 rfl iszP) (HKS.out _ _ GD.out) ?_
  try simp only [Act.put]
  try simp only [List.setIfInBounds_toArray]
  try simp only [List.set_cons_succ]
  try simp only [List.set_cons_zero]
  refine wpAnyL_one (o := ⟨some 11, _, _, _, _, _⟩) 6 (by kernel_rfl) rfl (fun K hK => ?_)
  go_wp2_with (go_at_call 38; refine (HCM.out _).mono ?_; rintro e w1 ⟨rfl, rfl⟩)
  refine hK _ _ (HKS.out _ _ GD.out) ?_
  clear hK K
  try simp only [Act.put]
  try simp only [List.setIfInBounds_toArray]
  try simp only [List.set_cons_succ]
  try simp only [List.set_cons_zero]
  refine wpAnyL_one (o := ⟨some 13, _, _, _, _, _⟩) 8 (by kernel_rfl) rfl (fun K hK => ?_)
  go_wp2_with (go_at_call 18; refine (HRA.out _ GD.out).mono ?_; rintro e w2 ⟨D2, c2, rfl, hs2, hb2⟩)
  have HS2 := hideIt hs2
  have GD2 := hideIt (GD.out.trans (hb2.mono GD.out.size))
  refine hK _ _ (HKS.out _ _ GD2.out) ?_
  clear hK K hs2 hb2 GD
  try simp only [Act.put]
  try simp only [List.setIfInBounds_toArray]
  try simp only [List.set_cons_succ]
  try simp only [List.set_cons_zero]
  refine wpAnyL_one (o := ⟨some 15, _, _, _, _, _⟩) 10 (by kernel_rfl) rfl (fun K hK => ?_)
  go_wp2_with (go_at_call 18; refine (HRB.out _ GD2.out).mono ?_; rintro e w3 ⟨D3, c3, rfl, hs3, hb3⟩)
  have HS3 := hideIt hs3
  have HS23 := hideIt ((HS2.out.below hb3).wide hb3.size)
  have GD3 := hideIt (GD2.out.trans (hb3.mono GD2.out.size))
  refine hK _ _ (HKS.out _ _ GD3.out) ?_
  clear hK K hs3 hb3 GD2
  try simp only [Act.put]
  try simp only [List.setIfInBounds_toArray]
  try simp only [List.set_cons_succ]
  try simp only [List.set_cons_zero]
  refine wpAnyL_one (o := ⟨some 16, _, _, _, _, _⟩) 11 (by kernel_rfl) rfl (fun K hK => ?_)
  go_wp2_with (go_at_call 39; refine (HCL.out _ _ _ _ _ HS23.out HS3.out).mono ?_; rintro e w4 ⟨rfl, rfl⟩)
  refine hK _ _ (HKS.out _ _ GD3.out) ?_
  clear hK K
  try simp only [Act.put]
  try simp only [List.setIfInBounds_toArray]
  try simp only [List.set_cons_succ]
  try simp only [List.set_cons_zero]
  refine wpAnyL_one (o := ⟨some 17, _, _, _, _, _⟩) 12 (by kernel_rfl) rfl (fun K hK => ?_)
  go_wp2_with fail
  have GD4 := hideIt (GD3.out.trans ((below_new w3 (.cells #[.int .i64 y, .int .i64 z] 3)).mono GD3.out.size))
  refine hK _ _ (HKS.out _ _ GD4.out) ?_
  clear hK K
  try simp only [Act.put]
  try simp only [List.setIfInBounds_toArray]
  try simp only [List.set_cons_succ]
  try simp only [List.set_cons_zero]
  refine wpAnyL_one (o := ⟨some 18, _, _, _, _, _⟩) 13 (by kernel_rfl) rfl (fun K hK => ?_)
  go_wp2_with (go_at_call 37; refine (HOR.out _).mono ?_; rintro e w4 ⟨rfl, rfl⟩)
  refine hK _ _ (HKS.out _ _ GD4.out) ?_
  clear hK K HKS
  try simp only [Act.put]
  try simp only [List.setIfInBounds_toArray]
  try simp only [List.set_cons_succ]
  try simp only [List.set_cons_zero]
  refine loads_tail 14 (by kernel_rfl) (by kernel_rfl) (by kernel_rfl) (by kernel_rfl) ?_
  simp only [List.drop_succ_cons, List.drop_zero]
  go_wp2_with fail
  go_ret
  exact ⟨⟨_, rfl, HBT.out _ rfl⟩, HB.out.trans (GD4.out.mono HB.out.size)⟩
end Go.Proofs.YtklngodlijiccaaDoor
