/-
  The reference's Clash, walked.
-/
import Derived.Test.YtkjnimcapjjfdaaDoorRVerify
import Derived.Test.YtkjnimcapjjfdaaDoorClash4
namespace Go.Proofs.YtkjnimcapjjfdaaDoor
open Go.RowKit
set_option linter.unusedVariables false

/-- A collision's cells. -/
def colC (x y : Value) (ok : Bool) : List Value := [x, y, .bool ok]
theorem colC_one {x y : Value} {ok : Bool} (hx : x.oneCell' = true) (hy : y.oneCell' = true) : ∀ u ∈ colC x y ok, u.oneCell' = true := by
  intro u hu
  simp only [colC, List.mem_cons, List.mem_nil_iff, or_false] at hu
  rcases hu with rfl | rfl | rfl
  · exact hx
  · exact hy
  · rfl
theorem built_col (A A' : Option Addr) (n n' c c' : Nat) (ok : Bool) : Tryd.prog.built 52 [(0, .slice A n c), (1, .slice A' n' c'), (2, .bool ok)] = some (colC (.slice A n c) (.slice A' n' c') ok).toArray := by kernel_rfl
theorem rc_start (a b : List UInt8) (w : World) : Below w.heap.size w (((w.alloc (.cells (a.map bv).toArray 30)).alloc (.cells (b.map bv).toArray 30)).alloc (.cells (colC (.slice none 0 0) (.slice none 0 0) false).toArray 52)) ∧
    Blk (((w.alloc (.cells (a.map bv).toArray 30)).alloc (.cells (b.map bv).toArray 30)).alloc (.cells (colC (.slice none 0 0) (.slice none 0 0) false).toArray 52)) w.heap.size 30 (a.map bv) ∧
    Blk (((w.alloc (.cells (a.map bv).toArray 30)).alloc (.cells (b.map bv).toArray 30)).alloc (.cells (colC (.slice none 0 0) (.slice none 0 0) false).toArray 52)) (w.heap.size + 1) 30 (b.map bv) ∧
    Blk (((w.alloc (.cells (a.map bv).toArray 30)).alloc (.cells (b.map bv).toArray 30)).alloc (.cells (colC (.slice none 0 0) (.slice none 0 0) false).toArray 52)) (w.heap.size + 1 + 1) 52 (colC (.slice none 0 0) (.slice none 0 0) false) := by
  have s1 : (w.alloc (.cells (a.map bv).toArray 30)).heap.size = w.heap.size + 1 := by simp
  have s2 : ((w.alloc (.cells (a.map bv).toArray 30)).alloc (.cells (b.map bv).toArray 30)).heap.size = w.heap.size + 1 + 1 := by simp
  refine ⟨((below_new w _).alloc (by rw [s1]; omega) _).alloc (by rw [s2]; omega) _, ((Blk.new w 30 (a.map bv)).alloc _).alloc _, ?_, ?_⟩
  · exact (s1 ▸ Blk.new (w.alloc (.cells (a.map bv).toArray 30)) 30 (b.map bv) : Blk ((w.alloc (.cells (a.map bv).toArray 30)).alloc (.cells (b.map bv).toArray 30)) (w.heap.size + 1) 30 (b.map bv)).alloc _
  · exact s2 ▸ Blk.new ((w.alloc (.cells (a.map bv).toArray 30)).alloc (.cells (b.map bv).toArray 30)) 52 (colC (.slice none 0 0) (.slice none 0 0) false)

theorem strs_eq (x y : List UInt8) : ((⟨x.toArray⟩ : ByteArray).toList == (⟨y.toArray⟩ : ByteArray).toList) = decide (x = y) := by
  rw [ByteArray.toList_eq, ByteArray.toList_eq]
  show (x == y) = _
  rw [Bool.eq_iff_iff, beq_iff_eq, decide_eq_true_iff]
theorem sl_heap {W W' : World} {B n : Nat} {A : Option Addr} {xs : List Value} (h : Sl W B A 1 n xs) (hW : W'.heap = W.heap) : Sl W' B A 1 n xs := h.keep fun b o _ => by unfold World.cell?; rw [hW]
/-- The rows of a row of rows, element by element. -/
def RowsM (W : World) (base b o n : Nat) (ms : List (List UInt8)) : Prop :=
  ∀ j, j < n → ∃ Au cu, W.cell? ⟨b, o + j, none⟩ = some (.slice Au (ms.getD j []).length cu) ∧ W.ownsRow base 5 1 (.slice Au (ms.getD j []).length cu) (ms.getD j []).length ((ms.getD j []).map bv)
theorem RowsM.kept {W W' : World} {base b o n : Nat} {ms : List (List UInt8)} (h : RowsM W base b o n ms) (hb : Below W.heap.size W W') (hl : b < W.heap.size) : RowsM W' base b o n ms := fun j hj => by
  obtain ⟨Au, cu, h1, h2⟩ := h j hj
  exact ⟨Au, cu, (hb.cell (p := ⟨b, o + j, none⟩) hl).trans h1, own_kept h2 hb⟩
theorem Msgs.rowsM {W : World} {base q : Nat} {v : Value} {ms : List (List UInt8)} (h : Msgs W base v ms) (hm : ms.length = q + 1) : ∃ b o c, v = .slice (some ⟨b, o, none⟩) (q + 1) c ∧ q + 1 ≤ c ∧ b < W.heap.size ∧ RowsM W base b o (q + 1) ms := by
  obtain ⟨xs, ho, he⟩ := h
  rw [hm] at ho
  obtain ⟨A, c, rfl, h1, h2⟩ := own_form ho
  have hx : xs.length = q + 1 := by rw [ho.1, Nat.mul_one]
  have hu : ∀ j, j < q + 1 → xs[j]? = some (xs.getD j undef) := fun j hj => by rw [List.getD_eq_getElem?_getD, List.getElem?_eq_getElem (by omega)]; rfl
  obtain ⟨b, o, rfl, hbl, _⟩ := sl_at (Sl.of_own ho) (hu 0 (by omega))
  refine ⟨b, o, c, rfl, h1, hbl, fun j hj => ?_⟩
  have hmj : ms[j]? = some (ms.getD j []) := by rw [List.getD_eq_getElem?_getD, List.getElem?_eq_getElem (by omega)]; rfl
  have hr := he j _ _ (hu j hj) hmj
  obtain ⟨Au, cu, hv, _, _⟩ := own_form hr
  obtain ⟨b', o', hbo, _, hc⟩ := sl_at (Sl.of_own ho) (hu j hj)
  simp only [Option.some.injEq, Addr.mk.injEq] at hbo
  obtain ⟨rfl, rfl, _⟩ := hbo
  rw [hv] at hr hc
  exact ⟨Au, cu, hc, hr⟩

set_option maxHeartbeats 1600000 in
set_option maxRecDepth 100000 in
theorem rclash_no1 (ff : Bool) (a b : List UInt8) (ha : a.length = 16) (hb : b.length = 16) (n i : Int) (A A' : Option Addr) (p p' c c' : Nat) (w : World) (hT : Tab w 0) (ms ns : List (List UInt8)) (q : Nat) (hq9 : q ≤ 1000000000) (hms : ms.length = q + 1) (hns : ns.length = q + 1)
    (hi1 : ∀ W, Below w.heap.size w W → Calls Tryd.prog 28 #[.int .i64 n, .int .i64 i, dv a, .slice A p c] W fun e w' => ∃ v, e = .returned (.tuple #[v, .bool false]) ∧ (false = true → Msgs w' W.heap.size v ms) ∧ Below W.heap.size W w')
    (hi2 : ∀ W, Below w.heap.size w W → Calls Tryd.prog 28 #[.int .i64 n, .int .i64 i, dv b, .slice A' p' c'] W fun e w' => ∃ v, e = .returned (.tuple #[v, .bool ff]) ∧ (ff = true → Msgs w' W.heap.size v ns) ∧ Below W.heap.size W w') :
    Calls Tryd.prog 27 #[.int .i64 n, .int .i64 i, dv a, dv b, .slice A p c, .slice A' p' c'] w fun e w' => ∃ vx vy, e = .returned (.agg (colC vx vy ((none : Option (List UInt8 × List UInt8))).isSome).toArray) ∧
      w'.ownsRow 0 5 1 vx (((none : Option (List UInt8 × List UInt8))).getD ([], [])).1.length ((((none : Option (List UInt8 × List UInt8))).getD ([], [])).1.map bv) ∧
      w'.ownsRow 0 5 1 vy (((none : Option (List UInt8 × List UInt8))).getD ([], [])).2.length ((((none : Option (List UInt8 × List UInt8))).getD ([], [])).2.map bv) ∧ Below w.heap.size w w' := by
  have HI1 := hideIt hi1
  have HI2 := hideIt hi2
  have HL1 := hideIt hms
  have HL2 := hideIt hns
  clear hi1 hi2 hms hns hT hq9
  obtain ⟨w3, hw3⟩ : ∃ W, W = ((w.alloc (.cells (a.map bv).toArray 30)).alloc (.cells (b.map bv).toArray 30)).alloc (.cells (colC (.slice none 0 0) (.slice none 0 0) false).toArray 52) := ⟨_, rfl⟩
  have hst := rc_start a b w
  rw [← hw3] at hst
  have HW3 := hideIt hw3
  have HB0 := hideIt hst.1
  have HKa := hideIt hst.2.1
  have HKb := hideIt hst.2.2.1
  have HKc := hideIt hst.2.2.2
  have HA := hideIt ha
  have HBL := hideIt hb
  clear hw3 hst ha hb
  go_enter Tryd.func27, Tryd.ntmps27
  go_wp2_with (first
    | ((with_reducible refine at_load ?_); rw [show ((w.alloc (.cells (a.map bv).toArray 30)).alloc (.cells (b.map bv).toArray 30)).alloc (.cells #[.slice none 0 0, .slice none 0 0, .bool false] 52) = w3 from HW3.out.symm]; refine wpList_get rfl 30 (.tmp 8) rfl w.heap.size (a.map bv) 30 (.array 16 5) rfl HKa.out (by kernel_rfl) rfl (isize16 _ HA.out) ?_)
    | ((with_reducible refine at_load ?_); refine wpList_get rfl 30 (.tmp 9) rfl (w.heap.size + 1) (b.map bv) 30 (.array 16 5) rfl HKb1.out (by kernel_rfl) rfl (isize16 _ HBL.out) ?_)
    | (go_at_call 28; refine (HI1.out _ HB0.out).mono ?_; clear HI1; rintro e w1 ⟨v1, rfl, hm, hb⟩; clear hm; have HB1 := hideIt (HB0.out.trans (hb.mono HB0.out.size)); have HKb1 := hideIt (HKb.out.kept hb HKb.out.lt); have HKc1 := hideIt (HKc.out.kept hb HKc.out.lt); clear hb)
    | (go_at_call 28; refine (HI2.out _ HB1.out).mono ?_; clear HI2; rintro e w2 ⟨v2, rfl, hm, hb⟩; skip; clear hm; have HB2 := hideIt (HB1.out.trans (hb.mono HB1.out.size)); have HKc2 := hideIt (HKc1.out.kept hb HKc1.out.lt); clear hb))
  have hdd := HB2.out.drew
  refine loads_begin_n 23 [] rfl (by kernel_rfl) ?_
  refine wpAnyL_move (oi := ⟨some 34, _, _, _, _, _⟩) 0 ?_ rfl (by kernel_rfl) (by kernel_rfl) (by kernel_rfl) (by kernel_rfl) (fun _ _ _ h => h) (by kernel_rfl) ?_ (Hooks.nil _ _) ?_
  rotate_left
  · intro W'; go_simp; first | done | with_reducible rfl
  try simp only [Act.put]
  try simp only [List.setIfInBounds_toArray]
  try simp only [List.set_cons_succ]
  try simp only [List.set_cons_zero]
  refine wpAnyL_move (oi := ⟨some 35, _, _, _, _, _⟩) 1 ?_ rfl (by kernel_rfl) (by kernel_rfl) (by kernel_rfl) (by kernel_rfl) (fun _ _ _ h => h) (by kernel_rfl) ?_ (Hooks.nil _ _) ?_
  rotate_left
  · intro W'; go_simp; first | done | with_reducible rfl
  try simp only [Act.put]
  try simp only [List.setIfInBounds_toArray]
  try simp only [List.set_cons_succ]
  try simp only [List.set_cons_zero]
  refine wpAnyL_move (oi := ⟨some 36, _, _, _, _, _⟩) 2 ?_ rfl (by kernel_rfl) (by kernel_rfl) (by kernel_rfl) (by kernel_rfl) (fun _ _ _ h => h) (by kernel_rfl) ?_ (Hooks.nil _ _) ?_
  rotate_left
  · intro W'; go_simp; first | done | with_reducible rfl
  try simp only [Act.put]
  try simp only [List.setIfInBounds_toArray]
  try simp only [List.set_cons_succ]
  try simp only [List.set_cons_zero]
  refine wpAnyL_pass (oi := ⟨some 37, _, _, _, _, _⟩) 3 rfl (by kernel_rfl) (by kernel_rfl) (by kernel_rfl) (by kernel_rfl) (fun _ _ _ h => h) (by kernel_rfl) (Hooks.nil _ _) ?_
  try simp only [Act.put]
  try simp only [List.setIfInBounds_toArray]
  try simp only [List.set_cons_succ]
  try simp only [List.set_cons_zero]
  refine wpAnyL_pass (oi := ⟨some 38, _, _, _, _, _⟩) 4 rfl (by kernel_rfl) (by kernel_rfl) (by kernel_rfl) (by kernel_rfl) (fun _ _ _ h => h) (by kernel_rfl) (Hooks.nil _ _) ?_
  try simp only [Act.put]
  try simp only [List.setIfInBounds_toArray]
  try simp only [List.set_cons_succ]
  try simp only [List.set_cons_zero]
  refine wpAnyL_move (oi := ⟨some 39, _, _, _, _, _⟩) 5 ?_ rfl (by kernel_rfl) (by kernel_rfl) (by kernel_rfl) (by kernel_rfl) (fun _ _ _ h => h) (by kernel_rfl) ?_ (Hooks.nil _ _) ?_
  rotate_left
  · intro W'; go_simp; first | done | with_reducible rfl
  try simp only [Act.put]
  try simp only [List.setIfInBounds_toArray]
  try simp only [List.set_cons_succ]
  try simp only [List.set_cons_zero]
  refine wpAnyL_move (oi := ⟨some 40, _, _, _, _, _⟩) 6 ?_ rfl (by kernel_rfl) (by kernel_rfl) (by kernel_rfl) (by kernel_rfl) (fun _ _ _ h => h) (by kernel_rfl) ?_ (Hooks.nil _ _) ?_
  rotate_left
  · intro W'; go_simp; first | done | with_reducible rfl
  try simp only [Act.put]
  try simp only [List.setIfInBounds_toArray]
  try simp only [List.set_cons_succ]
  try simp only [List.set_cons_zero]
  refine wpAnyL_pass (oi := ⟨some 41, _, _, _, _, _⟩) 7 rfl (by kernel_rfl) (by kernel_rfl) (by kernel_rfl) (by kernel_rfl) (fun _ _ _ h => h) (by kernel_rfl) (Hooks.nil _ _) ?_
  try simp only [Act.put]
  try simp only [List.setIfInBounds_toArray]
  try simp only [List.set_cons_succ]
  try simp only [List.set_cons_zero]
  refine wpAnyL_pass (oi := ⟨some 42, _, _, _, _, _⟩) 8 rfl (by kernel_rfl) (by kernel_rfl) (by kernel_rfl) (by kernel_rfl) (fun _ _ _ h => h) (by kernel_rfl) (Hooks.nil _ _) ?_
  try simp only [Act.put]
  try simp only [List.setIfInBounds_toArray]
  try simp only [List.set_cons_succ]
  try simp only [List.set_cons_zero]
  refine wpAnyL_pass (oi := ⟨some 43, _, _, _, _, _⟩) 9 rfl (by kernel_rfl) (by kernel_rfl) (by kernel_rfl) (by kernel_rfl) (fun _ _ _ h => h) (by kernel_rfl) (Hooks.nil _ _) ?_
  try simp only [Act.put]
  try simp only [List.setIfInBounds_toArray]
  try simp only [List.set_cons_succ]
  try simp only [List.set_cons_zero]
  refine wpAnyL_pass (oi := ⟨some 44, _, _, _, _, _⟩) 10 rfl (by kernel_rfl) (by kernel_rfl) (by kernel_rfl) (by kernel_rfl) (fun _ _ _ h => h) (by kernel_rfl) (Hooks.nil _ _) ?_
  try simp only [Act.put]
  try simp only [List.setIfInBounds_toArray]
  try simp only [List.set_cons_succ]
  try simp only [List.set_cons_zero]
  refine wpAnyL_pass (oi := ⟨some 45, _, _, _, _, _⟩) 11 rfl (by kernel_rfl) (by kernel_rfl) (by kernel_rfl) (by kernel_rfl) (fun _ _ _ h => h) (by kernel_rfl) (Hooks.nil _ _) ?_
  try simp only [Act.put]
  try simp only [List.setIfInBounds_toArray]
  try simp only [List.set_cons_succ]
  try simp only [List.set_cons_zero]
  refine wpAnyL_pass (oi := ⟨some 46, _, _, _, _, _⟩) 12 rfl (by kernel_rfl) (by kernel_rfl) (by kernel_rfl) (by kernel_rfl) (fun _ _ _ h => h) (by kernel_rfl) (Hooks.nil _ _) ?_
  try simp only [Act.put]
  try simp only [List.setIfInBounds_toArray]
  try simp only [List.set_cons_succ]
  try simp only [List.set_cons_zero]
  refine wpAnyL_pass (oi := ⟨some 48, _, _, _, _, _⟩) 14 rfl (by kernel_rfl) (by kernel_rfl) (by kernel_rfl) (by kernel_rfl) (fun _ _ _ h => h) (by kernel_rfl) (Hooks.nil _ _) ?_
  try simp only [Act.put]
  try simp only [List.setIfInBounds_toArray]
  try simp only [List.set_cons_succ]
  try simp only [List.set_cons_zero]
  refine wpAnyL_pass (oi := ⟨some 49, _, _, _, _, _⟩) 15 rfl (by kernel_rfl) (by kernel_rfl) (by kernel_rfl) (by kernel_rfl) (fun _ _ _ h => h) (by kernel_rfl) (Hooks.nil _ _) ?_
  try simp only [Act.put]
  try simp only [List.setIfInBounds_toArray]
  try simp only [List.set_cons_succ]
  try simp only [List.set_cons_zero]
  refine wpAnyL_pass (oi := ⟨some 50, _, _, _, _, _⟩) 16 rfl (by kernel_rfl) (by kernel_rfl) (by kernel_rfl) (by kernel_rfl) (fun _ _ _ h => h) (by kernel_rfl) (Hooks.nil _ _) ?_
  try simp only [Act.put]
  try simp only [List.setIfInBounds_toArray]
  try simp only [List.set_cons_succ]
  try simp only [List.set_cons_zero]
  refine wpAnyL_pass (oi := ⟨some 51, _, _, _, _, _⟩) 17 rfl (by kernel_rfl) (by kernel_rfl) (by kernel_rfl) (by kernel_rfl) (fun _ _ _ h => h) (by kernel_rfl) (Hooks.nil _ _) ?_
  try simp only [Act.put]
  try simp only [List.setIfInBounds_toArray]
  try simp only [List.set_cons_succ]
  try simp only [List.set_cons_zero]
  refine wpAnyL_pass (oi := ⟨some 52, _, _, _, _, _⟩) 18 rfl (by kernel_rfl) (by kernel_rfl) (by kernel_rfl) (by kernel_rfl) (fun _ _ _ h => h) (by kernel_rfl) (Hooks.nil _ _) ?_
  try simp only [Act.put]
  try simp only [List.setIfInBounds_toArray]
  try simp only [List.set_cons_succ]
  try simp only [List.set_cons_zero]
  refine wpAnyL_pass (oi := ⟨some 53, _, _, _, _, _⟩) 19 rfl (by kernel_rfl) (by kernel_rfl) (by kernel_rfl) (by kernel_rfl) (fun _ _ _ h => h) (by kernel_rfl) (Hooks.nil _ _) ?_
  try simp only [Act.put]
  try simp only [List.setIfInBounds_toArray]
  try simp only [List.set_cons_succ]
  try simp only [List.set_cons_zero]
  refine wpAnyL_one 13 (by kernel_rfl) rfl (fun K hK => ?_)
  go_wp2_with fail
  refine hK _ _ (Hooks.nil _ _) ?_
  clear hK K
  refine wpAnyL_one 20 (by kernel_rfl) rfl (fun K hK => ?_)
  go_wp2_with fail
  refine hK _ _ (Hooks.nil _ _) ?_
  clear hK K
  refine loads_tail 21 (by kernel_rfl) (by kernel_rfl) (by kernel_rfl) (by kernel_rfl) ?_
  simp only [List.drop_succ_cons, List.drop_zero]
  go_wp2_with (first
    | ((with_reducible refine at_build ?_); refine wpList_build_is rfl 52 #[] rfl (colC (.slice none 0 0) (.slice none 0 0) false).toArray (by kernel_rfl) ?_)
    | ((with_reducible refine at_store ?_); refine wpList_put rfl 52 (.tmp 12) (.tmp 57) rfl (w.heap.size + 1 + 1) (colC (.slice none 0 0) (.slice none 0 0) false) _ _ rfl rfl (show Blk w2.drew _ _ _ from HKc2.out) (by kernel_rfl) rfl (colC_one rfl rfl) ?_; intro w9 ht hb; have HB9 := hideIt hb; have HT9 := hideIt ht; clear ht hb))
  refine bodyPost_ret (v := .agg (colC (.slice none 0 0) (.slice none 0 0) false).toArray) (ret_blk rfl HB9.out _ rfl Tryd.underlying52 rfl (by kernel_rfl)) rfl ⟨_, _, rfl, World.ownsRow_nil _ _ _ _, World.ownsRow_nil _ _ _ _, HT9.out.below (HB2.out.drew) (by omega)⟩

set_option maxHeartbeats 1600000 in
set_option maxRecDepth 100000 in
theorem rclash_no2 (a b : List UInt8) (ha : a.length = 16) (hb : b.length = 16) (n i : Int) (A A' : Option Addr) (p p' c c' : Nat) (w : World) (hT : Tab w 0) (ms ns : List (List UInt8)) (q : Nat) (hq9 : q ≤ 1000000000) (hms : ms.length = q + 1) (hns : ns.length = q + 1)
    (hi1 : ∀ W, Below w.heap.size w W → Calls Tryd.prog 28 #[.int .i64 n, .int .i64 i, dv a, .slice A p c] W fun e w' => ∃ v, e = .returned (.tuple #[v, .bool true]) ∧ (true = true → Msgs w' W.heap.size v ms) ∧ Below W.heap.size W w')
    (hi2 : ∀ W, Below w.heap.size w W → Calls Tryd.prog 28 #[.int .i64 n, .int .i64 i, dv b, .slice A' p' c'] W fun e w' => ∃ v, e = .returned (.tuple #[v, .bool false]) ∧ (false = true → Msgs w' W.heap.size v ns) ∧ Below W.heap.size W w') :
    Calls Tryd.prog 27 #[.int .i64 n, .int .i64 i, dv a, dv b, .slice A p c, .slice A' p' c'] w fun e w' => ∃ vx vy, e = .returned (.agg (colC vx vy ((none : Option (List UInt8 × List UInt8))).isSome).toArray) ∧
      w'.ownsRow 0 5 1 vx (((none : Option (List UInt8 × List UInt8))).getD ([], [])).1.length ((((none : Option (List UInt8 × List UInt8))).getD ([], [])).1.map bv) ∧
      w'.ownsRow 0 5 1 vy (((none : Option (List UInt8 × List UInt8))).getD ([], [])).2.length ((((none : Option (List UInt8 × List UInt8))).getD ([], [])).2.map bv) ∧ Below w.heap.size w w' := by
  have HI1 := hideIt hi1
  have HI2 := hideIt hi2
  have HL1 := hideIt hms
  have HL2 := hideIt hns
  clear hi1 hi2 hms hns hT hq9
  obtain ⟨w3, hw3⟩ : ∃ W, W = ((w.alloc (.cells (a.map bv).toArray 30)).alloc (.cells (b.map bv).toArray 30)).alloc (.cells (colC (.slice none 0 0) (.slice none 0 0) false).toArray 52) := ⟨_, rfl⟩
  have hst := rc_start a b w
  rw [← hw3] at hst
  have HW3 := hideIt hw3
  have HB0 := hideIt hst.1
  have HKa := hideIt hst.2.1
  have HKb := hideIt hst.2.2.1
  have HKc := hideIt hst.2.2.2
  have HA := hideIt ha
  have HBL := hideIt hb
  clear hw3 hst ha hb
  go_enter Tryd.func27, Tryd.ntmps27
  go_wp2_with (first
    | ((with_reducible refine at_load ?_); rw [show ((w.alloc (.cells (a.map bv).toArray 30)).alloc (.cells (b.map bv).toArray 30)).alloc (.cells #[.slice none 0 0, .slice none 0 0, .bool false] 52) = w3 from HW3.out.symm]; refine wpList_get rfl 30 (.tmp 8) rfl w.heap.size (a.map bv) 30 (.array 16 5) rfl HKa.out (by kernel_rfl) rfl (isize16 _ HA.out) ?_)
    | ((with_reducible refine at_load ?_); refine wpList_get rfl 30 (.tmp 9) rfl (w.heap.size + 1) (b.map bv) 30 (.array 16 5) rfl HKb1.out (by kernel_rfl) rfl (isize16 _ HBL.out) ?_)
    | (go_at_call 28; refine (HI1.out _ HB0.out).mono ?_; clear HI1; rintro e w1 ⟨v1, rfl, hm, hb⟩; obtain ⟨b1, o1, c1, rfl, hc11, hb1l, hr1⟩ := (hm (by trivial)).rowsM HL1.out; have HR1 := hideIt hr1; clear hr1 hm; have HB1 := hideIt (HB0.out.trans (hb.mono HB0.out.size)); have HKb1 := hideIt (HKb.out.kept hb HKb.out.lt); have HKc1 := hideIt (HKc.out.kept hb HKc.out.lt); clear hb)
    | (go_at_call 28; refine (HI2.out _ HB1.out).mono ?_; clear HI2; rintro e w2 ⟨v2, rfl, hm, hb⟩; have HR1b := hideIt (RowsM.kept HR1.out hb hb1l); have hb1m := Nat.lt_of_lt_of_le hb1l hb.size; clear hm; have HB2 := hideIt (HB1.out.trans (hb.mono HB1.out.size)); have HKc2 := hideIt (HKc1.out.kept hb HKc1.out.lt); clear hb))
  have hdd := HB2.out.drew
  refine loads_begin_n 23 [] rfl (by kernel_rfl) ?_
  refine wpAnyL_move (oi := ⟨some 34, _, _, _, _, _⟩) 0 ?_ rfl (by kernel_rfl) (by kernel_rfl) (by kernel_rfl) (by kernel_rfl) (fun _ _ _ h => h) (by kernel_rfl) ?_ (Hooks.nil _ _) ?_
  rotate_left
  · intro W'; go_simp; first | done | with_reducible rfl
  try simp only [Act.put]
  try simp only [List.setIfInBounds_toArray]
  try simp only [List.set_cons_succ]
  try simp only [List.set_cons_zero]
  refine wpAnyL_move (oi := ⟨some 35, _, _, _, _, _⟩) 1 ?_ rfl (by kernel_rfl) (by kernel_rfl) (by kernel_rfl) (by kernel_rfl) (fun _ _ _ h => h) (by kernel_rfl) ?_ (Hooks.nil _ _) ?_
  rotate_left
  · intro W'; go_simp; first | done | with_reducible rfl
  try simp only [Act.put]
  try simp only [List.setIfInBounds_toArray]
  try simp only [List.set_cons_succ]
  try simp only [List.set_cons_zero]
  refine wpAnyL_move (oi := ⟨some 36, _, _, _, _, _⟩) 2 ?_ rfl (by kernel_rfl) (by kernel_rfl) (by kernel_rfl) (by kernel_rfl) (fun _ _ _ h => h) (by kernel_rfl) ?_ (Hooks.nil _ _) ?_
  rotate_left
  · intro W'; go_simp; first | done | with_reducible rfl
  try simp only [Act.put]
  try simp only [List.setIfInBounds_toArray]
  try simp only [List.set_cons_succ]
  try simp only [List.set_cons_zero]
  refine wpAnyL_move (oi := ⟨some 37, _, _, _, _, _⟩) 3 ?_ rfl (by kernel_rfl) (by kernel_rfl) (by kernel_rfl) (by kernel_rfl) (fun _ _ _ h => h) (by kernel_rfl) ?_ (Hooks.nil _ _) ?_
  rotate_left
  · intro W'; go_simp; first | done | with_reducible rfl
  try simp only [Act.put]
  try simp only [List.setIfInBounds_toArray]
  try simp only [List.set_cons_succ]
  try simp only [List.set_cons_zero]
  refine wpAnyL_move (oi := ⟨some 38, _, _, _, _, _⟩) 4 ?_ rfl (by kernel_rfl) (by kernel_rfl) (by kernel_rfl) (by kernel_rfl) (fun _ _ _ h => h) (by kernel_rfl) ?_ (Hooks.nil _ _) ?_
  rotate_left
  · intro W'; go_simp; first | done | with_reducible rfl
  try simp only [Act.put]
  try simp only [List.setIfInBounds_toArray]
  try simp only [List.set_cons_succ]
  try simp only [List.set_cons_zero]
  refine wpAnyL_move (oi := ⟨some 39, _, _, _, _, _⟩) 5 ?_ rfl (by kernel_rfl) (by kernel_rfl) (by kernel_rfl) (by kernel_rfl) (fun _ _ _ h => h) (by kernel_rfl) ?_ (Hooks.nil _ _) ?_
  rotate_left
  · intro W'; go_simp; first | done | with_reducible rfl
  try simp only [Act.put]
  try simp only [List.setIfInBounds_toArray]
  try simp only [List.set_cons_succ]
  try simp only [List.set_cons_zero]
  refine wpAnyL_move (oi := ⟨some 40, _, _, _, _, _⟩) 6 ?_ rfl (by kernel_rfl) (by kernel_rfl) (by kernel_rfl) (by kernel_rfl) (fun _ _ _ h => h) (by kernel_rfl) ?_ (Hooks.nil _ _) ?_
  rotate_left
  · intro W'; go_simp; first | done | with_reducible rfl
  try simp only [Act.put]
  try simp only [List.setIfInBounds_toArray]
  try simp only [List.set_cons_succ]
  try simp only [List.set_cons_zero]
  refine wpAnyL_pass (oi := ⟨some 41, _, _, _, _, _⟩) 7 rfl (by kernel_rfl) (by kernel_rfl) (by kernel_rfl) (by kernel_rfl) (fun _ _ _ h => h) (by kernel_rfl) (Hooks.nil _ _) ?_
  try simp only [Act.put]
  try simp only [List.setIfInBounds_toArray]
  try simp only [List.set_cons_succ]
  try simp only [List.set_cons_zero]
  refine wpAnyL_pass (oi := ⟨some 42, _, _, _, _, _⟩) 8 rfl (by kernel_rfl) (by kernel_rfl) (by kernel_rfl) (by kernel_rfl) (fun _ _ _ h => h) (by kernel_rfl) (Hooks.nil _ _) ?_
  try simp only [Act.put]
  try simp only [List.setIfInBounds_toArray]
  try simp only [List.set_cons_succ]
  try simp only [List.set_cons_zero]
  refine wpAnyL_pass (oi := ⟨some 43, _, _, _, _, _⟩) 9 rfl (by kernel_rfl) (by kernel_rfl) (by kernel_rfl) (by kernel_rfl) (fun _ _ _ h => h) (by kernel_rfl) (Hooks.nil _ _) ?_
  try simp only [Act.put]
  try simp only [List.setIfInBounds_toArray]
  try simp only [List.set_cons_succ]
  try simp only [List.set_cons_zero]
  refine wpAnyL_pass (oi := ⟨some 44, _, _, _, _, _⟩) 10 rfl (by kernel_rfl) (by kernel_rfl) (by kernel_rfl) (by kernel_rfl) (fun _ _ _ h => h) (by kernel_rfl) (Hooks.nil _ _) ?_
  try simp only [Act.put]
  try simp only [List.setIfInBounds_toArray]
  try simp only [List.set_cons_succ]
  try simp only [List.set_cons_zero]
  refine wpAnyL_pass (oi := ⟨some 45, _, _, _, _, _⟩) 11 rfl (by kernel_rfl) (by kernel_rfl) (by kernel_rfl) (by kernel_rfl) (fun _ _ _ h => h) (by kernel_rfl) (Hooks.nil _ _) ?_
  try simp only [Act.put]
  try simp only [List.setIfInBounds_toArray]
  try simp only [List.set_cons_succ]
  try simp only [List.set_cons_zero]
  refine wpAnyL_pass (oi := ⟨some 46, _, _, _, _, _⟩) 12 rfl (by kernel_rfl) (by kernel_rfl) (by kernel_rfl) (by kernel_rfl) (fun _ _ _ h => h) (by kernel_rfl) (Hooks.nil _ _) ?_
  try simp only [Act.put]
  try simp only [List.setIfInBounds_toArray]
  try simp only [List.set_cons_succ]
  try simp only [List.set_cons_zero]
  refine wpAnyL_pass (oi := ⟨some 48, _, _, _, _, _⟩) 14 rfl (by kernel_rfl) (by kernel_rfl) (by kernel_rfl) (by kernel_rfl) (fun _ _ _ h => h) (by kernel_rfl) (Hooks.nil _ _) ?_
  try simp only [Act.put]
  try simp only [List.setIfInBounds_toArray]
  try simp only [List.set_cons_succ]
  try simp only [List.set_cons_zero]
  refine wpAnyL_pass (oi := ⟨some 49, _, _, _, _, _⟩) 15 rfl (by kernel_rfl) (by kernel_rfl) (by kernel_rfl) (by kernel_rfl) (fun _ _ _ h => h) (by kernel_rfl) (Hooks.nil _ _) ?_
  try simp only [Act.put]
  try simp only [List.setIfInBounds_toArray]
  try simp only [List.set_cons_succ]
  try simp only [List.set_cons_zero]
  refine wpAnyL_pass (oi := ⟨some 50, _, _, _, _, _⟩) 16 rfl (by kernel_rfl) (by kernel_rfl) (by kernel_rfl) (by kernel_rfl) (fun _ _ _ h => h) (by kernel_rfl) (Hooks.nil _ _) ?_
  try simp only [Act.put]
  try simp only [List.setIfInBounds_toArray]
  try simp only [List.set_cons_succ]
  try simp only [List.set_cons_zero]
  refine wpAnyL_pass (oi := ⟨some 51, _, _, _, _, _⟩) 17 rfl (by kernel_rfl) (by kernel_rfl) (by kernel_rfl) (by kernel_rfl) (fun _ _ _ h => h) (by kernel_rfl) (Hooks.nil _ _) ?_
  try simp only [Act.put]
  try simp only [List.setIfInBounds_toArray]
  try simp only [List.set_cons_succ]
  try simp only [List.set_cons_zero]
  refine wpAnyL_pass (oi := ⟨some 52, _, _, _, _, _⟩) 18 rfl (by kernel_rfl) (by kernel_rfl) (by kernel_rfl) (by kernel_rfl) (fun _ _ _ h => h) (by kernel_rfl) (Hooks.nil _ _) ?_
  try simp only [Act.put]
  try simp only [List.setIfInBounds_toArray]
  try simp only [List.set_cons_succ]
  try simp only [List.set_cons_zero]
  refine wpAnyL_pass (oi := ⟨some 53, _, _, _, _, _⟩) 19 rfl (by kernel_rfl) (by kernel_rfl) (by kernel_rfl) (by kernel_rfl) (fun _ _ _ h => h) (by kernel_rfl) (Hooks.nil _ _) ?_
  try simp only [Act.put]
  try simp only [List.setIfInBounds_toArray]
  try simp only [List.set_cons_succ]
  try simp only [List.set_cons_zero]
  refine wpAnyL_one 13 (by kernel_rfl) rfl (fun K hK => ?_)
  go_wp2_with fail
  refine hK _ _ (Hooks.nil _ _) ?_
  clear hK K
  refine wpAnyL_one 20 (by kernel_rfl) rfl (fun K hK => ?_)
  go_wp2_with fail
  refine hK _ _ (Hooks.nil _ _) ?_
  clear hK K
  refine loads_tail 21 (by kernel_rfl) (by kernel_rfl) (by kernel_rfl) (by kernel_rfl) ?_
  simp only [List.drop_succ_cons, List.drop_zero]
  go_wp2_with (first
    | ((with_reducible refine at_build ?_); refine wpList_build_is rfl 52 #[] rfl (colC (.slice none 0 0) (.slice none 0 0) false).toArray (by kernel_rfl) ?_)
    | ((with_reducible refine at_store ?_); refine wpList_put rfl 52 (.tmp 12) (.tmp 57) rfl (w.heap.size + 1 + 1) (colC (.slice none 0 0) (.slice none 0 0) false) _ _ rfl rfl (show Blk w2.drew _ _ _ from HKc2.out) (by kernel_rfl) rfl (colC_one rfl rfl) ?_; intro w9 ht hb; have HB9 := hideIt hb; have HT9 := hideIt ht; clear ht hb))
  refine bodyPost_ret (v := .agg (colC (.slice none 0 0) (.slice none 0 0) false).toArray) (ret_blk rfl HB9.out _ rfl Tryd.underlying52 rfl (by kernel_rfl)) rfl ⟨_, _, rfl, World.ownsRow_nil _ _ _ _, World.ownsRow_nil _ _ _ _, HT9.out.below (HB2.out.drew) (by omega)⟩

set_option maxHeartbeats 1600000 in
set_option maxRecDepth 100000 in
theorem rclash_ne (a b : List UInt8) (ha : a.length = 16) (hb : b.length = 16) (n i : Int) (A A' : Option Addr) (p p' c c' : Nat) (w : World) (hT : Tab w 0) (ms ns : List (List UInt8)) (q : Nat) (hq9 : q ≤ 1000000000) (hms : ms.length = q + 1) (hns : ns.length = q + 1)
    (m1 m2 r1 r2 : List UInt8) (hg1 : ms.getD q [] = m1) (hg2 : ns.getD q [] = m2) (hc1 : cutD m1 = r1) (hc2 : cutD m2 = r2) (h1l : m1.length ≤ 100) (h2l : m2.length ≤ 100) (hrr : ¬ r1 = r2)
    (hi1 : ∀ W, Below w.heap.size w W → Calls Tryd.prog 28 #[.int .i64 n, .int .i64 i, dv a, .slice A p c] W fun e w' => ∃ v, e = .returned (.tuple #[v, .bool true]) ∧ (true = true → Msgs w' W.heap.size v ms) ∧ Below W.heap.size W w')
    (hi2 : ∀ W, Below w.heap.size w W → Calls Tryd.prog 28 #[.int .i64 n, .int .i64 i, dv b, .slice A' p' c'] W fun e w' => ∃ v, e = .returned (.tuple #[v, .bool true]) ∧ (true = true → Msgs w' W.heap.size v ns) ∧ Below W.heap.size W w') :
    Calls Tryd.prog 27 #[.int .i64 n, .int .i64 i, dv a, dv b, .slice A p c, .slice A' p' c'] w fun e w' => ∃ vx vy, e = .returned (.agg (colC vx vy ((none : Option (List UInt8 × List UInt8))).isSome).toArray) ∧
      w'.ownsRow 0 5 1 vx (((none : Option (List UInt8 × List UInt8))).getD ([], [])).1.length ((((none : Option (List UInt8 × List UInt8))).getD ([], [])).1.map bv) ∧
      w'.ownsRow 0 5 1 vy (((none : Option (List UInt8 × List UInt8))).getD ([], [])).2.length ((((none : Option (List UInt8 × List UInt8))).getD ([], [])).2.map bv) ∧ Below w.heap.size w w' := by
  have HI1 := hideIt hi1
  have HI2 := hideIt hi2
  have HL1 := hideIt hms
  have HL2 := hideIt hns
  have HT := hideIt hT
  have HG1 := hideIt hg1
  have HG2 := hideIt hg2
  have HSH1 := hideIt (fun (W : World) {base : Nat} {v : Value} (h : W.ownsRow base 5 1 v m1.length (m1.map bv)) (h2 : Tab W 0) => short_own h (by omega) h2)
  have HSH2 := hideIt (fun (W : World) {base : Nat} {v : Value} (h : W.ownsRow base 5 1 v m2.length (m2.map bv)) (h2 : Tab W 0) => short_own h (by omega) h2)
  rw [hc1] at HSH1
  rw [hc2] at HSH2
  have heq := equal_digest r1 r2 (by rw [← hc1]; exact cutD_len _) (by rw [← hc2]; exact cutD_len _)
  rw [decide_eq_false hrr] at heq
  clear hi1 hi2 hms hns hT hg1 hg2 hc1 hc2 h1l h2l hrr
  obtain ⟨w3, hw3⟩ : ∃ W, W = ((w.alloc (.cells (a.map bv).toArray 30)).alloc (.cells (b.map bv).toArray 30)).alloc (.cells (colC (.slice none 0 0) (.slice none 0 0) false).toArray 52) := ⟨_, rfl⟩
  have hst := rc_start a b w
  rw [← hw3] at hst
  have HW3 := hideIt hw3
  have HB0 := hideIt hst.1
  have HKa := hideIt hst.2.1
  have HKb := hideIt hst.2.2.1
  have HKc := hideIt hst.2.2.2
  have HA := hideIt ha
  have HBL := hideIt hb
  clear hw3 hst ha hb
  go_enter Tryd.func27, Tryd.ntmps27
  go_wp2_with (first
    | ((with_reducible refine at_load ?_); rw [show ((w.alloc (.cells (a.map bv).toArray 30)).alloc (.cells (b.map bv).toArray 30)).alloc (.cells #[.slice none 0 0, .slice none 0 0, .bool false] 52) = w3 from HW3.out.symm]; refine wpList_get rfl 30 (.tmp 8) rfl w.heap.size (a.map bv) 30 (.array 16 5) rfl HKa.out (by kernel_rfl) rfl (isize16 _ HA.out) ?_)
    | ((with_reducible refine at_load ?_); refine wpList_get rfl 30 (.tmp 9) rfl (w.heap.size + 1) (b.map bv) 30 (.array 16 5) rfl HKb1.out (by kernel_rfl) rfl (isize16 _ HBL.out) ?_)
    | (go_at_call 28; refine (HI1.out _ HB0.out).mono ?_; clear HI1; rintro e w1 ⟨v1, rfl, hm, hb⟩; obtain ⟨b1, o1, c1, rfl, hc11, hb1l, hr1⟩ := (hm (by trivial)).rowsM HL1.out; have HR1 := hideIt hr1; clear hr1 hm; have HB1 := hideIt (HB0.out.trans (hb.mono HB0.out.size)); have HKb1 := hideIt (HKb.out.kept hb HKb.out.lt); have HKc1 := hideIt (HKc.out.kept hb HKc.out.lt); clear hb)
    | (go_at_call 28; refine (HI2.out _ HB1.out).mono ?_; clear HI2; rintro e w2 ⟨v2, rfl, hm, hb⟩; have HR1b := hideIt (RowsM.kept HR1.out hb hb1l); have hb1m := Nat.lt_of_lt_of_le hb1l hb.size; obtain ⟨b2, o2, c2, rfl, hc21, hb2l, hr2⟩ := (hm (by trivial)).rowsM HL2.out; have HR2 := hideIt hr2; clear hr2 hm; have HB2 := hideIt (HB1.out.trans (hb.mono HB1.out.size)); have HKc2 := hideIt (HKc1.out.kept hb HKc1.out.lt); clear hb))
  have hdd := HB2.out.drew
  obtain ⟨Au, cu, hcu, hou⟩ := HR1b.out q (by omega)
  obtain ⟨Av, cv, hcv, hov⟩ := HR2.out q (by omega)
  rw [HG1.out] at hcu hou
  rw [HG2.out] at hcv hov
  have HOU := hideIt hou
  have HOV := hideIt hov
  clear hou hov
  have hq1 : (q : Int) < (q : Int) + 1 := by omega
  have HWR1 : Hid (IntKind.i64.wrap ((q : Int) + 1 - 1) = (q : Int)) := by rw [show (q : Int) + 1 - 1 = (q : Int) by omega]; exact IntWalk.i64_in _ (by omega)
  have HWR2 : Hid (IntKind.i64.wrap (q : Int) = (q : Int)) := IntWalk.i64_in _ (by omega)
  refine loads_begin_n 23 [(13, fun W' => W'.cell? ⟨b1, o1 + q, none⟩ = some (.slice Au m1.length cu)), (20, fun W' => W'.cell? ⟨b2, o2 + q, none⟩ = some (.slice Av m2.length cv))] rfl (by kernel_rfl) ?_
  refine wpAnyL_move (oi := ⟨some 34, _, _, _, _, _⟩) 0 ?_ rfl (by kernel_rfl) (by kernel_rfl) (by kernel_rfl) (by kernel_rfl) (fun _ _ _ h => h) (by kernel_rfl) ?_ (Hooks.add hcu (Hooks.add hcv (Hooks.nil _ _))) ?_
  rotate_left
  · intro W'; go_simp; first | done | with_reducible rfl
  try simp only [Act.put]
  try simp only [List.setIfInBounds_toArray]
  try simp only [List.set_cons_succ]
  try simp only [List.set_cons_zero]
  refine wpAnyL_move (oi := ⟨some 35, _, _, _, _, _⟩) 1 ?_ rfl (by kernel_rfl) (by kernel_rfl) (by kernel_rfl) (by kernel_rfl) (fun _ _ _ h => h) (by kernel_rfl) ?_ (Hooks.add hcu (Hooks.add hcv (Hooks.nil _ _))) ?_
  rotate_left
  · intro W'; go_simp; first | done | with_reducible rfl
  try simp only [Act.put]
  try simp only [List.setIfInBounds_toArray]
  try simp only [List.set_cons_succ]
  try simp only [List.set_cons_zero]
  refine wpAnyL_move (oi := ⟨some 36, _, _, _, _, _⟩) 2 ?_ rfl (by kernel_rfl) (by kernel_rfl) (by kernel_rfl) (by kernel_rfl) (fun _ _ _ h => h) (by kernel_rfl) ?_ (Hooks.add hcu (Hooks.add hcv (Hooks.nil _ _))) ?_
  rotate_left
  · intro W'; go_simp; first | done | with_reducible rfl
  try simp only [Act.put]
  try simp only [List.setIfInBounds_toArray]
  try simp only [List.set_cons_succ]
  try simp only [List.set_cons_zero]
  refine wpAnyL_move (oi := ⟨some 37, _, _, _, _, _⟩) 3 ?_ rfl (by kernel_rfl) (by kernel_rfl) (by kernel_rfl) (by kernel_rfl) (fun _ _ _ h => h) (by kernel_rfl) ?_ (Hooks.add hcu (Hooks.add hcv (Hooks.nil _ _))) ?_
  rotate_left
  · intro W'; go_simp; first | done | with_reducible rfl
  try simp only [Act.put]
  try simp only [List.setIfInBounds_toArray]
  try simp only [List.set_cons_succ]
  try simp only [List.set_cons_zero]
  refine wpAnyL_move (oi := ⟨some 38, _, _, _, _, _⟩) 4 ?_ rfl (by kernel_rfl) (by kernel_rfl) (by kernel_rfl) (by kernel_rfl) (fun _ _ _ h => h) (by kernel_rfl) ?_ (Hooks.add hcu (Hooks.add hcv (Hooks.nil _ _))) ?_
  rotate_left
  · intro W'; go_simp; first | done | with_reducible rfl
  try simp only [Act.put]
  try simp only [List.setIfInBounds_toArray]
  try simp only [List.set_cons_succ]
  try simp only [List.set_cons_zero]
  refine wpAnyL_move (oi := ⟨some 39, _, _, _, _, _⟩) 5 ?_ rfl (by kernel_rfl) (by kernel_rfl) (by kernel_rfl) (by kernel_rfl) (fun _ _ _ h => h) (by kernel_rfl) ?_ (Hooks.add hcu (Hooks.add hcv (Hooks.nil _ _))) ?_
  rotate_left
  · intro W'; go_simp; first | done | with_reducible rfl
  try simp only [Act.put]
  try simp only [List.setIfInBounds_toArray]
  try simp only [List.set_cons_succ]
  try simp only [List.set_cons_zero]
  refine wpAnyL_move (oi := ⟨some 40, _, _, _, _, _⟩) 6 ?_ rfl (by kernel_rfl) (by kernel_rfl) (by kernel_rfl) (by kernel_rfl) (fun _ _ _ h => h) (by kernel_rfl) ?_ (Hooks.add hcu (Hooks.add hcv (Hooks.nil _ _))) ?_
  rotate_left
  · intro W'; go_simp; first | done | with_reducible rfl
  try simp only [Act.put]
  try simp only [List.setIfInBounds_toArray]
  try simp only [List.set_cons_succ]
  try simp only [List.set_cons_zero]
  refine wpAnyL_move (oi := ⟨some 41, _, _, _, _, _⟩) 7 ?_ rfl (by kernel_rfl) (by kernel_rfl) (by kernel_rfl) (by kernel_rfl) (fun _ _ _ h => h) (by kernel_rfl) ?_ (Hooks.add hcu (Hooks.add hcv (Hooks.nil _ _))) ?_
  rotate_left
  · intro W'; go_simp; first | done | with_reducible rfl
  try simp only [Act.put]
  try simp only [List.setIfInBounds_toArray]
  try simp only [List.set_cons_succ]
  try simp only [List.set_cons_zero]
  refine wpAnyL_move (oi := ⟨some 42, _, _, _, _, _⟩) 8 ?_ rfl (by kernel_rfl) (by kernel_rfl) (by kernel_rfl) (by kernel_rfl) (fun _ _ _ h => h) (by kernel_rfl) ?_ (Hooks.add hcu (Hooks.add hcv (Hooks.nil _ _))) ?_
  rotate_left
  · intro W'; go_simp; first | done | with_reducible rfl
  try simp only [Act.put]
  try simp only [List.setIfInBounds_toArray]
  try simp only [List.set_cons_succ]
  try simp only [List.set_cons_zero]
  refine wpAnyL_move (oi := ⟨some 43, _, _, _, _, _⟩) 9 ?_ rfl (by kernel_rfl) (by kernel_rfl) (by kernel_rfl) (by kernel_rfl) (fun _ _ _ h => h) (by kernel_rfl) ?_ (Hooks.add hcu (Hooks.add hcv (Hooks.nil _ _))) ?_
  rotate_left
  · intro W'; go_simp; first | done | with_reducible rfl
  try simp only [Act.put]
  try simp only [List.setIfInBounds_toArray]
  try simp only [List.set_cons_succ]
  try simp only [List.set_cons_zero]
  refine wpAnyL_move (oi := ⟨some 44, _, _, _, _, _⟩) 10 ?_ rfl (by kernel_rfl) (by kernel_rfl) (by kernel_rfl) (by kernel_rfl) (fun _ _ _ h => h) (by kernel_rfl) ?_ (Hooks.add hcu (Hooks.add hcv (Hooks.nil _ _))) ?_
  rotate_left
  · intro W'; go_simp; first | done | with_reducible rfl
  try simp only [Act.put]
  try simp only [List.setIfInBounds_toArray]
  try simp only [List.set_cons_succ]
  try simp only [List.set_cons_zero]
  try simp only [HWR1.out]
  try simp only [HWR2.out]
  refine wpAnyL_move (oi := ⟨some 45, _, _, _, _, _⟩) 11 ?_ rfl (by kernel_rfl) (by kernel_rfl) (by kernel_rfl) (by kernel_rfl) (fun _ _ _ h => h) (by kernel_rfl) ?_ (Hooks.add hcu (Hooks.add hcv (Hooks.nil _ _))) ?_
  rotate_left
  · intro W'; go_simp; first | done | with_reducible rfl
  try simp only [Act.put]
  try simp only [List.setIfInBounds_toArray]
  try simp only [List.set_cons_succ]
  try simp only [List.set_cons_zero]
  refine wpAnyL_take (oi := ⟨some 46, _, _, _, _, _⟩) 12 13 (.slice Au m1.length cu) _ rfl (by kernel_rfl) (by kernel_rfl) (by kernel_rfl) (by kernel_rfl) (by kernel_rfl) (by kernel_rfl) (.head _) (fun _ _ _ h => h) (by kernel_rfl) (fun W' hW' => by (try dsimp only at hW'); go_simp) (Hooks.add hcu (Hooks.add hcv (Hooks.nil _ _))) ?_
  try simp only [Act.put]
  try simp only [List.setIfInBounds_toArray]
  try simp only [List.set_cons_succ]
  try simp only [List.set_cons_zero]
  refine wpAnyL_move (oi := ⟨some 48, _, _, _, _, _⟩) 14 ?_ rfl (by kernel_rfl) (by kernel_rfl) (by kernel_rfl) (by kernel_rfl) (fun _ _ _ h => h) (by kernel_rfl) ?_ (Hooks.add hcu (Hooks.add hcv (Hooks.nil _ _))) ?_
  rotate_left
  · intro W'; go_simp; first | done | with_reducible rfl
  try simp only [Act.put]
  try simp only [List.setIfInBounds_toArray]
  try simp only [List.set_cons_succ]
  try simp only [List.set_cons_zero]
  refine wpAnyL_move (oi := ⟨some 49, _, _, _, _, _⟩) 15 ?_ rfl (by kernel_rfl) (by kernel_rfl) (by kernel_rfl) (by kernel_rfl) (fun _ _ _ h => h) (by kernel_rfl) ?_ (Hooks.add hcu (Hooks.add hcv (Hooks.nil _ _))) ?_
  rotate_left
  · intro W'; go_simp; first | done | with_reducible rfl
  try simp only [Act.put]
  try simp only [List.setIfInBounds_toArray]
  try simp only [List.set_cons_succ]
  try simp only [List.set_cons_zero]
  refine wpAnyL_move (oi := ⟨some 50, _, _, _, _, _⟩) 16 ?_ rfl (by kernel_rfl) (by kernel_rfl) (by kernel_rfl) (by kernel_rfl) (fun _ _ _ h => h) (by kernel_rfl) ?_ (Hooks.add hcu (Hooks.add hcv (Hooks.nil _ _))) ?_
  rotate_left
  · intro W'; go_simp; first | done | with_reducible rfl
  try simp only [Act.put]
  try simp only [List.setIfInBounds_toArray]
  try simp only [List.set_cons_succ]
  try simp only [List.set_cons_zero]
  refine wpAnyL_move (oi := ⟨some 51, _, _, _, _, _⟩) 17 ?_ rfl (by kernel_rfl) (by kernel_rfl) (by kernel_rfl) (by kernel_rfl) (fun _ _ _ h => h) (by kernel_rfl) ?_ (Hooks.add hcu (Hooks.add hcv (Hooks.nil _ _))) ?_
  rotate_left
  · intro W'; go_simp; first | done | with_reducible rfl
  try simp only [Act.put]
  try simp only [List.setIfInBounds_toArray]
  try simp only [List.set_cons_succ]
  try simp only [List.set_cons_zero]
  try simp only [HWR1.out]
  try simp only [HWR2.out]
  refine wpAnyL_move (oi := ⟨some 52, _, _, _, _, _⟩) 18 ?_ rfl (by kernel_rfl) (by kernel_rfl) (by kernel_rfl) (by kernel_rfl) (fun _ _ _ h => h) (by kernel_rfl) ?_ (Hooks.add hcu (Hooks.add hcv (Hooks.nil _ _))) ?_
  rotate_left
  · intro W'; go_simp; first | done | with_reducible rfl
  try simp only [Act.put]
  try simp only [List.setIfInBounds_toArray]
  try simp only [List.set_cons_succ]
  try simp only [List.set_cons_zero]
  refine wpAnyL_take (oi := ⟨some 53, _, _, _, _, _⟩) 19 20 (.slice Av m2.length cv) _ rfl (by kernel_rfl) (by kernel_rfl) (by kernel_rfl) (by kernel_rfl) (by kernel_rfl) (by kernel_rfl) (.tail _ (.head _)) (fun _ _ _ h => h) (by kernel_rfl) (fun W' hW' => by (try dsimp only at hW'); go_simp) (Hooks.add hcu (Hooks.add hcv (Hooks.nil _ _))) ?_
  try simp only [Act.put]
  try simp only [List.setIfInBounds_toArray]
  try simp only [List.set_cons_succ]
  try simp only [List.set_cons_zero]
  refine wpAnyL_one 13 (by kernel_rfl) rfl (fun K hK => ?_)
  go_wp2_with (go_at_call 29; refine (HSH1.out _ (own_kept HOU.out ((Below.refl _ _).drew)) (HT.out.keep HB2.out.drew)).mono ?_; rintro e w4 ⟨rfl, hb⟩; have hb' : Below w2.heap.size w2 w4 := ((Below.refl _ _).drew).trans hb; have HB24 := hideIt hb'; have HB4 := hideIt (HB2.out.trans (hb'.mono HB2.out.size)); have hcv4 := (hb'.cell (p := ⟨b2, o2 + q, none⟩) hb2l).trans hcv; clear hb hb')
  refine hK _ _ (Hooks.skip (by kernel_rfl) (Hooks.add hcv4 (Hooks.nil _ _))) ?_
  clear hK K
  refine loads_tail 20 (by kernel_rfl) (by kernel_rfl) (by kernel_rfl) (by kernel_rfl) ?_
  simp only [List.drop_succ_cons, List.drop_zero]
  go_wp2_with (first
    | (go_at_call 29; refine (HSH2.out _ (own_kept HOV.out HB24.out) (HT.out.keep HB4.out)).mono ?_; rintro e w5 ⟨rfl, hb⟩; have HB25 := hideIt (HB24.out.trans (hb.mono HB24.out.size)); have HB5 := hideIt (HB4.out.trans (hb.mono HB4.out.size)); have HKc5 := hideIt (HKc2.out.kept HB25.out HKc2.out.lt); clear hb)
    | ((with_reducible refine at_build ?_); refine wpList_build_is rfl 52 #[] rfl (colC (.slice none 0 0) (.slice none 0 0) false).toArray (by kernel_rfl) ?_)
    | ((with_reducible refine at_store ?_); refine wpList_put rfl 52 (.tmp 12) (.tmp 57) rfl (w.heap.size + 1 + 1) (colC (.slice none 0 0) (.slice none 0 0) false) _ _ rfl rfl (HKc5.out) (by kernel_rfl) rfl (colC_one rfl rfl) ?_; intro w9 ht hb; have HB9 := hideIt hb; have HT9 := hideIt ht; clear ht hb))
  refine bodyPost_ret (v := .agg (colC (.slice none 0 0) (.slice none 0 0) false).toArray) (ret_blk rfl HB9.out _ rfl Tryd.underlying52 rfl (by kernel_rfl)) rfl ⟨_, _, rfl, World.ownsRow_nil _ _ _ _, World.ownsRow_nil _ _ _ _, HT9.out.below (HB5.out) (by omega)⟩

set_option maxHeartbeats 1600000 in
set_option maxRecDepth 100000 in
theorem rclash_eq (a b : List UInt8) (ha : a.length = 16) (hb : b.length = 16) (n i : Int) (A A' : Option Addr) (p p' c c' : Nat) (w : World) (hT : Tab w 0) (ms ns : List (List UInt8)) (q : Nat) (hq9 : q ≤ 1000000000) (hms : ms.length = q + 1) (hns : ns.length = q + 1)
    (m1 m2 r1 r2 : List UInt8) (hg1 : ms.getD q [] = m1) (hg2 : ns.getD q [] = m2) (hc1 : cutD m1 = r1) (hc2 : cutD m2 = r2) (h1l : m1.length ≤ 100) (h2l : m2.length ≤ 100) (hrr : r1 = r2)
    (hi1 : ∀ W, Below w.heap.size w W → Calls Tryd.prog 28 #[.int .i64 n, .int .i64 i, dv a, .slice A p c] W fun e w' => ∃ v, e = .returned (.tuple #[v, .bool true]) ∧ (true = true → Msgs w' W.heap.size v ms) ∧ Below W.heap.size W w')
    (hi2 : ∀ W, Below w.heap.size w W → Calls Tryd.prog 28 #[.int .i64 n, .int .i64 i, dv b, .slice A' p' c'] W fun e w' => ∃ v, e = .returned (.tuple #[v, .bool true]) ∧ (true = true → Msgs w' W.heap.size v ns) ∧ Below W.heap.size W w') :
    Calls Tryd.prog 27 #[.int .i64 n, .int .i64 i, dv a, dv b, .slice A p c, .slice A' p' c'] w fun e w' => ∃ vx vy, e = .returned (.agg (colC vx vy (lastD ms ns (q + 1)).isSome).toArray) ∧
      w'.ownsRow 0 5 1 vx ((lastD ms ns (q + 1)).getD ([], [])).1.length (((lastD ms ns (q + 1)).getD ([], [])).1.map bv) ∧
      w'.ownsRow 0 5 1 vy ((lastD ms ns (q + 1)).getD ([], [])).2.length (((lastD ms ns (q + 1)).getD ([], [])).2.map bv) ∧ Below w.heap.size w w' := by
  have HI1 := hideIt hi1
  have HI2 := hideIt hi2
  have HL1 := hideIt hms
  have HL2 := hideIt hns
  have HT := hideIt hT
  have HG1 := hideIt hg1
  have HG2 := hideIt hg2
  have HSH1 := hideIt (fun (W : World) {base : Nat} {v : Value} (h : W.ownsRow base 5 1 v m1.length (m1.map bv)) (h2 : Tab W 0) => short_own h (by omega) h2)
  have HSH2 := hideIt (fun (W : World) {base : Nat} {v : Value} (h : W.ownsRow base 5 1 v m2.length (m2.map bv)) (h2 : Tab W 0) => short_own h (by omega) h2)
  rw [hc1] at HSH1
  rw [hc2] at HSH2
  have heq := equal_digest r1 r2 (by rw [← hc1]; exact cutD_len _) (by rw [← hc2]; exact cutD_len _)
  rw [decide_eq_true hrr] at heq
  clear hi1 hi2 hms hns hT hg1 hg2 hc1 hc2 h1l h2l hrr
  obtain ⟨w3, hw3⟩ : ∃ W, W = ((w.alloc (.cells (a.map bv).toArray 30)).alloc (.cells (b.map bv).toArray 30)).alloc (.cells (colC (.slice none 0 0) (.slice none 0 0) false).toArray 52) := ⟨_, rfl⟩
  have hst := rc_start a b w
  rw [← hw3] at hst
  have HW3 := hideIt hw3
  have HB0 := hideIt hst.1
  have HKa := hideIt hst.2.1
  have HKb := hideIt hst.2.2.1
  have HKc := hideIt hst.2.2.2
  have HA := hideIt ha
  have HBL := hideIt hb
  clear hw3 hst ha hb
  go_enter Tryd.func27, Tryd.ntmps27
  go_wp2_with (first
    | ((with_reducible refine at_load ?_); rw [show ((w.alloc (.cells (a.map bv).toArray 30)).alloc (.cells (b.map bv).toArray 30)).alloc (.cells #[.slice none 0 0, .slice none 0 0, .bool false] 52) = w3 from HW3.out.symm]; refine wpList_get rfl 30 (.tmp 8) rfl w.heap.size (a.map bv) 30 (.array 16 5) rfl HKa.out (by kernel_rfl) rfl (isize16 _ HA.out) ?_)
    | ((with_reducible refine at_load ?_); refine wpList_get rfl 30 (.tmp 9) rfl (w.heap.size + 1) (b.map bv) 30 (.array 16 5) rfl HKb1.out (by kernel_rfl) rfl (isize16 _ HBL.out) ?_)
    | (go_at_call 28; refine (HI1.out _ HB0.out).mono ?_; clear HI1; rintro e w1 ⟨v1, rfl, hm, hb⟩; obtain ⟨b1, o1, c1, rfl, hc11, hb1l, hr1⟩ := (hm (by trivial)).rowsM HL1.out; have HR1 := hideIt hr1; clear hr1 hm; have HB1 := hideIt (HB0.out.trans (hb.mono HB0.out.size)); have HKb1 := hideIt (HKb.out.kept hb HKb.out.lt); have HKc1 := hideIt (HKc.out.kept hb HKc.out.lt); clear hb)
    | (go_at_call 28; refine (HI2.out _ HB1.out).mono ?_; clear HI2; rintro e w2 ⟨v2, rfl, hm, hb⟩; have HR1b := hideIt (RowsM.kept HR1.out hb hb1l); have hb1m := Nat.lt_of_lt_of_le hb1l hb.size; obtain ⟨b2, o2, c2, rfl, hc21, hb2l, hr2⟩ := (hm (by trivial)).rowsM HL2.out; have HR2 := hideIt hr2; clear hr2 hm; have HB2 := hideIt (HB1.out.trans (hb.mono HB1.out.size)); have HKc2 := hideIt (HKc1.out.kept hb HKc1.out.lt); clear hb))
  have hdd := HB2.out.drew
  obtain ⟨Au, cu, hcu, hou⟩ := HR1b.out q (by omega)
  obtain ⟨Av, cv, hcv, hov⟩ := HR2.out q (by omega)
  rw [HG1.out] at hcu hou
  rw [HG2.out] at hcv hov
  have HOU := hideIt hou
  have HOV := hideIt hov
  clear hou hov
  have hq1 : (q : Int) < (q : Int) + 1 := by omega
  have HWR1 : Hid (IntKind.i64.wrap ((q : Int) + 1 - 1) = (q : Int)) := by rw [show (q : Int) + 1 - 1 = (q : Int) by omega]; exact IntWalk.i64_in _ (by omega)
  have HWR2 : Hid (IntKind.i64.wrap (q : Int) = (q : Int)) := IntWalk.i64_in _ (by omega)
  refine loads_begin_n 23 [(13, fun W' => W'.cell? ⟨b1, o1 + q, none⟩ = some (.slice Au m1.length cu)), (20, fun W' => W'.cell? ⟨b2, o2 + q, none⟩ = some (.slice Av m2.length cv))] rfl (by kernel_rfl) ?_
  refine wpAnyL_move (oi := ⟨some 34, _, _, _, _, _⟩) 0 ?_ rfl (by kernel_rfl) (by kernel_rfl) (by kernel_rfl) (by kernel_rfl) (fun _ _ _ h => h) (by kernel_rfl) ?_ (Hooks.add hcu (Hooks.add hcv (Hooks.nil _ _))) ?_
  rotate_left
  · intro W'; go_simp; first | done | with_reducible rfl
  try simp only [Act.put]
  try simp only [List.setIfInBounds_toArray]
  try simp only [List.set_cons_succ]
  try simp only [List.set_cons_zero]
  refine wpAnyL_move (oi := ⟨some 35, _, _, _, _, _⟩) 1 ?_ rfl (by kernel_rfl) (by kernel_rfl) (by kernel_rfl) (by kernel_rfl) (fun _ _ _ h => h) (by kernel_rfl) ?_ (Hooks.add hcu (Hooks.add hcv (Hooks.nil _ _))) ?_
  rotate_left
  · intro W'; go_simp; first | done | with_reducible rfl
  try simp only [Act.put]
  try simp only [List.setIfInBounds_toArray]
  try simp only [List.set_cons_succ]
  try simp only [List.set_cons_zero]
  refine wpAnyL_move (oi := ⟨some 36, _, _, _, _, _⟩) 2 ?_ rfl (by kernel_rfl) (by kernel_rfl) (by kernel_rfl) (by kernel_rfl) (fun _ _ _ h => h) (by kernel_rfl) ?_ (Hooks.add hcu (Hooks.add hcv (Hooks.nil _ _))) ?_
  rotate_left
  · intro W'; go_simp; first | done | with_reducible rfl
  try simp only [Act.put]
  try simp only [List.setIfInBounds_toArray]
  try simp only [List.set_cons_succ]
  try simp only [List.set_cons_zero]
  refine wpAnyL_move (oi := ⟨some 37, _, _, _, _, _⟩) 3 ?_ rfl (by kernel_rfl) (by kernel_rfl) (by kernel_rfl) (by kernel_rfl) (fun _ _ _ h => h) (by kernel_rfl) ?_ (Hooks.add hcu (Hooks.add hcv (Hooks.nil _ _))) ?_
  rotate_left
  · intro W'; go_simp; first | done | with_reducible rfl
  try simp only [Act.put]
  try simp only [List.setIfInBounds_toArray]
  try simp only [List.set_cons_succ]
  try simp only [List.set_cons_zero]
  refine wpAnyL_move (oi := ⟨some 38, _, _, _, _, _⟩) 4 ?_ rfl (by kernel_rfl) (by kernel_rfl) (by kernel_rfl) (by kernel_rfl) (fun _ _ _ h => h) (by kernel_rfl) ?_ (Hooks.add hcu (Hooks.add hcv (Hooks.nil _ _))) ?_
  rotate_left
  · intro W'; go_simp; first | done | with_reducible rfl
  try simp only [Act.put]
  try simp only [List.setIfInBounds_toArray]
  try simp only [List.set_cons_succ]
  try simp only [List.set_cons_zero]
  refine wpAnyL_move (oi := ⟨some 39, _, _, _, _, _⟩) 5 ?_ rfl (by kernel_rfl) (by kernel_rfl) (by kernel_rfl) (by kernel_rfl) (fun _ _ _ h => h) (by kernel_rfl) ?_ (Hooks.add hcu (Hooks.add hcv (Hooks.nil _ _))) ?_
  rotate_left
  · intro W'; go_simp; first | done | with_reducible rfl
  try simp only [Act.put]
  try simp only [List.setIfInBounds_toArray]
  try simp only [List.set_cons_succ]
  try simp only [List.set_cons_zero]
  refine wpAnyL_move (oi := ⟨some 40, _, _, _, _, _⟩) 6 ?_ rfl (by kernel_rfl) (by kernel_rfl) (by kernel_rfl) (by kernel_rfl) (fun _ _ _ h => h) (by kernel_rfl) ?_ (Hooks.add hcu (Hooks.add hcv (Hooks.nil _ _))) ?_
  rotate_left
  · intro W'; go_simp; first | done | with_reducible rfl
  try simp only [Act.put]
  try simp only [List.setIfInBounds_toArray]
  try simp only [List.set_cons_succ]
  try simp only [List.set_cons_zero]
  refine wpAnyL_move (oi := ⟨some 41, _, _, _, _, _⟩) 7 ?_ rfl (by kernel_rfl) (by kernel_rfl) (by kernel_rfl) (by kernel_rfl) (fun _ _ _ h => h) (by kernel_rfl) ?_ (Hooks.add hcu (Hooks.add hcv (Hooks.nil _ _))) ?_
  rotate_left
  · intro W'; go_simp; first | done | with_reducible rfl
  try simp only [Act.put]
  try simp only [List.setIfInBounds_toArray]
  try simp only [List.set_cons_succ]
  try simp only [List.set_cons_zero]
  refine wpAnyL_move (oi := ⟨some 42, _, _, _, _, _⟩) 8 ?_ rfl (by kernel_rfl) (by kernel_rfl) (by kernel_rfl) (by kernel_rfl) (fun _ _ _ h => h) (by kernel_rfl) ?_ (Hooks.add hcu (Hooks.add hcv (Hooks.nil _ _))) ?_
  rotate_left
  · intro W'; go_simp; first | done | with_reducible rfl
  try simp only [Act.put]
  try simp only [List.setIfInBounds_toArray]
  try simp only [List.set_cons_succ]
  try simp only [List.set_cons_zero]
  refine wpAnyL_move (oi := ⟨some 43, _, _, _, _, _⟩) 9 ?_ rfl (by kernel_rfl) (by kernel_rfl) (by kernel_rfl) (by kernel_rfl) (fun _ _ _ h => h) (by kernel_rfl) ?_ (Hooks.add hcu (Hooks.add hcv (Hooks.nil _ _))) ?_
  rotate_left
  · intro W'; go_simp; first | done | with_reducible rfl
  try simp only [Act.put]
  try simp only [List.setIfInBounds_toArray]
  try simp only [List.set_cons_succ]
  try simp only [List.set_cons_zero]
  refine wpAnyL_move (oi := ⟨some 44, _, _, _, _, _⟩) 10 ?_ rfl (by kernel_rfl) (by kernel_rfl) (by kernel_rfl) (by kernel_rfl) (fun _ _ _ h => h) (by kernel_rfl) ?_ (Hooks.add hcu (Hooks.add hcv (Hooks.nil _ _))) ?_
  rotate_left
  · intro W'; go_simp; first | done | with_reducible rfl
  try simp only [Act.put]
  try simp only [List.setIfInBounds_toArray]
  try simp only [List.set_cons_succ]
  try simp only [List.set_cons_zero]
  try simp only [HWR1.out]
  try simp only [HWR2.out]
  refine wpAnyL_move (oi := ⟨some 45, _, _, _, _, _⟩) 11 ?_ rfl (by kernel_rfl) (by kernel_rfl) (by kernel_rfl) (by kernel_rfl) (fun _ _ _ h => h) (by kernel_rfl) ?_ (Hooks.add hcu (Hooks.add hcv (Hooks.nil _ _))) ?_
  rotate_left
  · intro W'; go_simp; first | done | with_reducible rfl
  try simp only [Act.put]
  try simp only [List.setIfInBounds_toArray]
  try simp only [List.set_cons_succ]
  try simp only [List.set_cons_zero]
  refine wpAnyL_take (oi := ⟨some 46, _, _, _, _, _⟩) 12 13 (.slice Au m1.length cu) _ rfl (by kernel_rfl) (by kernel_rfl) (by kernel_rfl) (by kernel_rfl) (by kernel_rfl) (by kernel_rfl) (.head _) (fun _ _ _ h => h) (by kernel_rfl) (fun W' hW' => by (try dsimp only at hW'); go_simp) (Hooks.add hcu (Hooks.add hcv (Hooks.nil _ _))) ?_
  try simp only [Act.put]
  try simp only [List.setIfInBounds_toArray]
  try simp only [List.set_cons_succ]
  try simp only [List.set_cons_zero]
  refine wpAnyL_move (oi := ⟨some 48, _, _, _, _, _⟩) 14 ?_ rfl (by kernel_rfl) (by kernel_rfl) (by kernel_rfl) (by kernel_rfl) (fun _ _ _ h => h) (by kernel_rfl) ?_ (Hooks.add hcu (Hooks.add hcv (Hooks.nil _ _))) ?_
  rotate_left
  · intro W'; go_simp; first | done | with_reducible rfl
  try simp only [Act.put]
  try simp only [List.setIfInBounds_toArray]
  try simp only [List.set_cons_succ]
  try simp only [List.set_cons_zero]
  refine wpAnyL_move (oi := ⟨some 49, _, _, _, _, _⟩) 15 ?_ rfl (by kernel_rfl) (by kernel_rfl) (by kernel_rfl) (by kernel_rfl) (fun _ _ _ h => h) (by kernel_rfl) ?_ (Hooks.add hcu (Hooks.add hcv (Hooks.nil _ _))) ?_
  rotate_left
  · intro W'; go_simp; first | done | with_reducible rfl
  try simp only [Act.put]
  try simp only [List.setIfInBounds_toArray]
  try simp only [List.set_cons_succ]
  try simp only [List.set_cons_zero]
  refine wpAnyL_move (oi := ⟨some 50, _, _, _, _, _⟩) 16 ?_ rfl (by kernel_rfl) (by kernel_rfl) (by kernel_rfl) (by kernel_rfl) (fun _ _ _ h => h) (by kernel_rfl) ?_ (Hooks.add hcu (Hooks.add hcv (Hooks.nil _ _))) ?_
  rotate_left
  · intro W'; go_simp; first | done | with_reducible rfl
  try simp only [Act.put]
  try simp only [List.setIfInBounds_toArray]
  try simp only [List.set_cons_succ]
  try simp only [List.set_cons_zero]
  refine wpAnyL_move (oi := ⟨some 51, _, _, _, _, _⟩) 17 ?_ rfl (by kernel_rfl) (by kernel_rfl) (by kernel_rfl) (by kernel_rfl) (fun _ _ _ h => h) (by kernel_rfl) ?_ (Hooks.add hcu (Hooks.add hcv (Hooks.nil _ _))) ?_
  rotate_left
  · intro W'; go_simp; first | done | with_reducible rfl
  try simp only [Act.put]
  try simp only [List.setIfInBounds_toArray]
  try simp only [List.set_cons_succ]
  try simp only [List.set_cons_zero]
  try simp only [HWR1.out]
  try simp only [HWR2.out]
  refine wpAnyL_move (oi := ⟨some 52, _, _, _, _, _⟩) 18 ?_ rfl (by kernel_rfl) (by kernel_rfl) (by kernel_rfl) (by kernel_rfl) (fun _ _ _ h => h) (by kernel_rfl) ?_ (Hooks.add hcu (Hooks.add hcv (Hooks.nil _ _))) ?_
  rotate_left
  · intro W'; go_simp; first | done | with_reducible rfl
  try simp only [Act.put]
  try simp only [List.setIfInBounds_toArray]
  try simp only [List.set_cons_succ]
  try simp only [List.set_cons_zero]
  refine wpAnyL_take (oi := ⟨some 53, _, _, _, _, _⟩) 19 20 (.slice Av m2.length cv) _ rfl (by kernel_rfl) (by kernel_rfl) (by kernel_rfl) (by kernel_rfl) (by kernel_rfl) (by kernel_rfl) (.tail _ (.head _)) (fun _ _ _ h => h) (by kernel_rfl) (fun W' hW' => by (try dsimp only at hW'); go_simp) (Hooks.add hcu (Hooks.add hcv (Hooks.nil _ _))) ?_
  try simp only [Act.put]
  try simp only [List.setIfInBounds_toArray]
  try simp only [List.set_cons_succ]
  try simp only [List.set_cons_zero]
  refine wpAnyL_one 13 (by kernel_rfl) rfl (fun K hK => ?_)
  go_wp2_with (go_at_call 29; refine (HSH1.out _ (own_kept HOU.out ((Below.refl _ _).drew)) (HT.out.keep HB2.out.drew)).mono ?_; rintro e w4 ⟨rfl, hb⟩; have hb' : Below w2.heap.size w2 w4 := ((Below.refl _ _).drew).trans hb; have HB24 := hideIt hb'; have HB4 := hideIt (HB2.out.trans (hb'.mono HB2.out.size)); have hcv4 := (hb'.cell (p := ⟨b2, o2 + q, none⟩) hb2l).trans hcv; clear hb hb')
  refine hK _ _ (Hooks.skip (by kernel_rfl) (Hooks.add hcv4 (Hooks.nil _ _))) ?_
  clear hK K
  refine loads_tail 20 (by kernel_rfl) (by kernel_rfl) (by kernel_rfl) (by kernel_rfl) ?_
  simp only [List.drop_succ_cons, List.drop_zero]
  have hwq : IntKind.i64.wrap ((q : Int) + 1 - 1) = (q : Int) := HWR1.out
  have hwq2 : IntKind.i64.wrap (q : Int) = (q : Int) := HWR2.out
  go_wp2_with (go_at_call 29; refine (HSH2.out _ (own_kept HOV.out HB24.out) (HT.out.keep HB4.out)).mono ?_; rintro e w5 ⟨rfl, hb⟩; have HB25 := hideIt (HB24.out.trans (hb.mono HB24.out.size)); have HB5 := hideIt (HB4.out.trans (hb.mono HB4.out.size)); have HKc5 := hideIt (HKc2.out.kept HB25.out HKc2.out.lt); clear hb)
  have HR1c := hideIt (RowsM.kept HR1b.out HB25.out hb1m)
  have HR2c := hideIt (RowsM.kept HR2.out HB25.out hb2l)
  have hl1 := Nat.lt_of_lt_of_le hb1m HB25.out.size
  have hl2 := Nat.lt_of_lt_of_le hb2l HB25.out.size
  clear hdd hcu hcv HOU HOV hcv4 HB24 HB4 heq HSH1 HSH2 HB25 HKc2 HKb1 HKc1 HB1 HR1 HR1b HR2 hwq hwq2 hq1 HG1 HG2
  go_loopg [17] (q + 1) (fun g s17 wr => ∃ (z : Int), z + 1 = (g : Int) ∧ g ≤ q + 1 ∧ s17 = .int .i64 z ∧ b1 < wr.heap.size ∧ b2 < wr.heap.size ∧ Aside (lastD ms ns g = lastD ms ns (q + 1) ∧ RowsM wr w3.heap.size b1 o1 (q + 1) ms ∧ RowsM wr w1.heap.size b2 o2 (q + 1) ns ∧ Blk wr (w.heap.size + 1 + 1) 52 (colC (.slice none 0 0) (.slice none 0 0) false) ∧ Below w.heap.size w wr))
  case atStart => exact ⟨q, by omega, Nat.le_refl _, rfl, hl1, hl2, rfl, HR1c.out, HR2c.out, HKc5.out, HB5.out⟩
  case round =>
    obtain ⟨z, hz, hk, rfl, hl1r, hl2r, HA⟩ := hrel
    by_cases hz0 : z < 0
    · obtain rfl : gk = 0 := by omega
      have HLN : Hid (lastD ms ns (q + 1) = none) := HA.out.1.symm
      have HKr := hideIt HA.out.2.2.2.1
      have HBr := hideIt HA.out.2.2.2.2
      clear HA
      go_wp2_with (first
        | ((with_reducible refine at_build ?_); refine wpList_build_is rfl 52 #[] rfl (colC (.slice none 0 0) (.slice none 0 0) false).toArray (by kernel_rfl) ?_)
        | ((with_reducible refine at_store ?_); refine wpList_put rfl 52 (.tmp 12) (.tmp 85) rfl (w.heap.size + 1 + 1) (colC (.slice none 0 0) (.slice none 0 0) false) _ _ rfl rfl HKr.out (by kernel_rfl) rfl (colC_one rfl rfl) ?_; intro w9 ht hb; have HB9 := hideIt hb; have HT9 := hideIt ht; clear ht hb))
      refine bodyPost_ret (v := .agg (colC (.slice none 0 0) (.slice none 0 0) false).toArray) (ret_blk rfl HB9.out _ rfl Tryd.underlying52 rfl (by kernel_rfl)) rfl ?_
      rw [HLN.out]
      exact ⟨_, _, rfl, World.ownsRow_nil _ _ _ _, World.ownsRow_nil _ _ _ _, HT9.out.below HBr.out (by omega)⟩
    · obtain ⟨j, rfl⟩ : ∃ j : Nat, z = j := ⟨z.toNat, by omega⟩
      obtain rfl : gk = j + 1 := by omega
      obtain ⟨Au, cu, hcu, hou⟩ := HA.out.2.1 j (by omega)
      obtain ⟨Av, cv, hcv, hov⟩ := HA.out.2.2.1 j (by omega)
      have hstep := HA.out.1
      rw [lastD] at hstep
      generalize ms.getD j [] = mu at *
      generalize ns.getD j [] = mv at *
      have hjq : (j : Int) < (q : Int) + 1 := by omega
      have hj0 : (0 : Int) ≤ (j : Int) := by omega
      obtain ⟨su, hsu⟩ : ∃ s : ByteArray, s = ⟨mu.toArray⟩ := ⟨_, rfl⟩
      obtain ⟨sv, hsv⟩ : ∃ s : ByteArray, s = ⟨mv.toArray⟩ := ⟨_, rfl⟩
      have hss : (su.toList == sv.toList) = decide (mu = mv) := by rw [hsu, hsv]; exact strs_eq mu mv
      have HCU := hideIt (fun (W : World) (hW : W.heap = wr.heap) => (by rw [hsu]; exact conv_bytes (c := cu) Tryd.underlying22 Tryd.underlying5 Tryd.underlying9 (sl_heap (Sl.of_own hou) hW) : (convert 22 9 (.slice Au mu.length cu)).run Tryd.prog W = .ok (.string su) W))
      have HCV := hideIt (fun (W : World) (hW : W.heap = wr.heap) => (by rw [hsv]; exact conv_bytes (c := cv) Tryd.underlying22 Tryd.underlying5 Tryd.underlying9 (sl_heap (Sl.of_own hov) hW) : (convert 22 9 (.slice Av mv.length cv)).run Tryd.prog W = .ok (.string sv) W))
      have HOU := hideIt hou
      have HOV := hideIt hov
      have HC1 := hideIt hcu
      have HC2 := hideIt hcv
      clear hou hov hsu hsv hcu hcv hz hz0
      by_cases hmm : mu = mv
      · rw [if_pos hmm] at hstep
        have HST := hideIt hstep
        rw [decide_eq_true hmm] at hss
        clear hmm hstep
        go_wp2_with fail
        refine still_tail 10 (by kernel_rfl) (by kernel_rfl) ?_
        intro w8 hw8
        have Hw8 := hideIt hw8
        have q1 : w8.cell? ⟨b1, o1 + j, none⟩ = some (.slice Au mu.length cu) := by rw [hw8]; exact HC1.out
        have q2 : w8.cell? ⟨b2, o2 + j, none⟩ = some (.slice Av mv.length cv) := by rw [hw8]; exact HC2.out
        have q3 := HCU.out w8 (by rw [hw8]; rfl)
        have q4 := HCV.out w8 (by rw [hw8]; rfl)
        clear hw8
        simp only [List.take_succ_cons, List.take_zero, List.drop_succ_cons, List.drop_zero]
        repeat still_step
        refine wpStill_nil ?_
        go_wp2_with fail
        go_roundg j
        case measure => omega
        case rel => exact ⟨(j : Int) - 1, by omega, by omega, by go_num, by rw [Hw8.out]; exact hl1r, by rw [Hw8.out]; exact hl2r, HST.out, by rw [Hw8.out]; exact HA.out.2.1, by rw [Hw8.out]; exact HA.out.2.2.1, by rw [Hw8.out]; exact HA.out.2.2.2.1, by rw [Hw8.out]; exact HA.out.2.2.2.2.drew⟩
      · rw [if_neg hmm] at hstep
        have HST := hideIt hstep
        rw [decide_eq_false hmm] at hss
        clear hmm hstep
        go_wp2_with fail
        refine still_tail 10 (by kernel_rfl) (by kernel_rfl) ?_
        intro w8 hw8
        have Hw8 := hideIt hw8
        have q1 : w8.cell? ⟨b1, o1 + j, none⟩ = some (.slice Au mu.length cu) := by rw [hw8]; exact HC1.out
        have q2 : w8.cell? ⟨b2, o2 + j, none⟩ = some (.slice Av mv.length cv) := by rw [hw8]; exact HC2.out
        have q3 := HCU.out w8 (by rw [hw8]; rfl)
        have q4 := HCV.out w8 (by rw [hw8]; rfl)
        clear hw8
        simp only [List.take_succ_cons, List.take_zero, List.drop_succ_cons, List.drop_zero]
        repeat still_step
        refine wpStill_nil ?_
        go_wp2_with fail
        refine still_tail 8 (by kernel_rfl) (by kernel_rfl) ?_
        intro w10 hw10
        have hwx : w10 = wr.drew.drew := by rw [hw10, Hw8.out]
        have Hw10 := hideIt hwx
        have q1 : w10.cell? ⟨b1, o1 + j, none⟩ = some (.slice Au mu.length cu) := by rw [hwx]; exact HC1.out
        have q2 : w10.cell? ⟨b2, o2 + j, none⟩ = some (.slice Av mv.length cv) := by rw [hwx]; exact HC2.out
        have HKx := hideIt (show Blk w10 (w.heap.size + 1 + 1) 52 (colC (.slice none 0 0) (.slice none 0 0) false) by rw [hwx]; exact HA.out.2.2.2.1)
        have HUx := hideIt (show w10.ownsRow w3.heap.size 5 1 (.slice Au mu.length cu) mu.length (mu.map bv) by rw [hwx]; exact HOU.out)
        have HVx := hideIt (show w10.ownsRow w1.heap.size 5 1 (.slice Av mv.length cv) mv.length (mv.map bv) by rw [hwx]; exact HOV.out)
        have HBx := hideIt (show Below w.heap.size w w10 by rw [hwx]; exact HA.out.2.2.2.2.drew.drew)
        clear hw10 hwx q3 q4 HA
        simp only [List.take_succ_cons, List.take_zero, List.drop_succ_cons, List.drop_zero]
        repeat still_step
        refine wpStill_nil ?_
        go_wp2_with (first
          | ((with_reducible refine at_build ?_); refine wpList_build_is rfl 52 #[(0, .tmp 79), (1, .tmp 83), (2, .const (.bool true))] rfl (colC (.slice Au mu.length cu) (.slice Av mv.length cv) true).toArray (by rw [Array.toList_map]; exact built_col _ _ _ _ _ _ _) ?_)
          | ((with_reducible refine at_store ?_); refine wpList_put rfl 52 (.tmp 12) (.tmp 84) rfl (w.heap.size + 1 + 1) (colC (.slice Au mu.length cu) (.slice Av mv.length cv) true) _ _ rfl rfl HKx.out (by kernel_rfl) rfl (colC_one rfl rfl) ?_; intro w9 ht hb; have HB9 := hideIt hb; have HT9 := hideIt ht; clear ht hb))
        refine bodyPost_ret (v := .agg (colC (.slice Au mu.length cu) (.slice Av mv.length cv) true).toArray) (ret_blk rfl HB9.out _ rfl Tryd.underlying52 rfl (by kernel_rfl)) rfl ?_
        rw [← HST.out]
        exact ⟨_, _, rfl, own_low (own_turned HUx.out HKx.out (by decide) HT9.out) (Nat.zero_le _), own_low (own_turned HVx.out HKx.out (by decide) HT9.out) (Nat.zero_le _), HT9.out.below HBx.out (by omega)⟩

end Go.Proofs.YtkjnimcapjjfdaaDoor
