/-
  What a prefix proof shows, walked: digest.pair.
-/
import Derived.Test.YtefalanfkihcdaaDoorVerify
import Derived.Test.YtefalanfkihcdaaDoorOnceL
namespace Go.Proofs.YtefalanfkihcdaaDoor
open Go.RowKit
set_option linter.unusedVariables false

theorem exec_load_mid {P : Program} {ev : Operand → Value} {W : World} {o : Oper} {ty : TypeId} {x : Operand} {b off : Nat} {cs : List Value} (ho : o.op = .load ty x) (hx : ev x = .pointer (some ⟨b, off, none⟩)) (hg : W.rangeAt b off cs) (d : TypeDesc)
    (hu : P.underlying ty = some d) (hd : d.isRow = true) (hi : (P.info? ty).map (·.size) = some cs.length) : (execOp ev o).run P W = .ok (.value (.agg cs.toArray)) W := by
  unfold execOp
  simp only [ho, hx, Sem.run_bind, run_loadAt_mid W b off ty cs d hg hu hd hi, Result.andThen_ok, Sem.run_pure]
theorem Has16.turned {w w' : World} {b o g : Nat} {d : List UInt8} (h : Has16 w ⟨b, o, none⟩ d) (ht : Turned g w w') (hb : b ≠ g) : Has16 w' ⟨b, o, none⟩ d :=
  ⟨h.1, fun j u hu => by have := h.2 j u hu; rw [addr_add] at this ⊢; exact (ht.cell hb).trans this⟩
/-- What the first p elements of a proof show (rf: the reference's way where there are too many). -/
def pairG (rf : Bool) (old : List UInt8) (ds : List (List UInt8)) : Nat → Nat → Nat → Bool → List UInt8 × List UInt8 × Bool
  | 0, m, n, whole => if m = n ∧ whole = true then (old, old, true) else (zeroD, zeroD, false)
  | p + 1, m, n, whole =>
    if m = n ∧ whole = true then (old, old, false)
    else if m = n then (ds.getD (if rf then p else 0) [], ds.getD (if rf then p else 0) [], decide (p = 0))
    else if m ≤ splitK n then ((pairG rf old ds p m (splitK n) whole).1, nodeD (pairG rf old ds p m (splitK n) whole).2.1 (ds.getD p []), (pairG rf old ds p m (splitK n) whole).2.2)
    else (nodeD (ds.getD p []) (pairG rf old ds p (m - splitK n) (n - splitK n) false).1, nodeD (ds.getD p []) (pairG rf old ds p (m - splitK n) (n - splitK n) false).2.1, (pairG rf old ds p (m - splitK n) (n - splitK n) false).2.2)
theorem pairG_len (rf : Bool) (old : List UInt8) (ds : List (List UInt8)) (ho : old.length = 16) (hd : ∀ d ∈ ds, d.length = 16) : ∀ (p m n : Nat) (whole : Bool), p ≤ ds.length → (pairG rf old ds p m n whole).1.length = 16 ∧ (pairG rf old ds p m n whole).2.1.length = 16
  | 0, m, n, whole, _ => by
    unfold pairG; split
    · exact ⟨ho, ho⟩
    · exact ⟨rfl, rfl⟩
  | p + 1, m, n, whole, hp => by
    have g : ∀ j, j < ds.length → (ds.getD j []).length = 16 := fun j hj => by
      rw [List.getD_eq_getElem?_getD, List.getElem?_eq_getElem hj]; exact hd _ (List.getElem_mem hj)
    unfold pairG
    split
    · exact ⟨ho, ho⟩
    · split
      · cases rf
        · exact ⟨g 0 (by omega), g 0 (by omega)⟩
        · exact ⟨g p (by omega), g p (by omega)⟩
      · split
        · exact ⟨(pairG_len rf old ds ho hd p m _ whole (by omega)).1, cutD_len _⟩
        · exact ⟨cutD_len _, cutD_len _⟩
theorem results_pair {P : Program} {fn : Func} {p q t : Tmp} {T : TypeId} (h : fn.results = #[.cell p T, .cell q T, .tmp t]) (tmps : Array Value) (w : World) (g g' : Nat) (ty : TypeId) (cs cs' : List Value) (d : TypeDesc)
    (hp : tmps.getD p undef = .pointer (some ⟨g, 0, none⟩)) (hq : tmps.getD q undef = .pointer (some ⟨g', 0, none⟩)) (hg : Blk w g ty cs) (hg' : Blk w g' ty cs') (hu : P.underlying T = some d) (hd : d.isRow = true)
    (hi : (P.info? T).map (·.size) = some cs.length) (hi' : (P.info? T).map (·.size) = some cs'.length) :
    (results fn tmps).run P w = .ok (.tuple #[.agg cs.toArray, .agg cs'.toArray, tmps.getD t undef]) w := by
  have hl := run_loadVar_mid (P := P) w g 0 T cs d (fun j v hv => by rw [hg.cell, Nat.zero_add]; exact hv) hu hd hi
  have hl' := run_loadVar_mid (P := P) w g' 0 T cs' d (fun j v hv => by rw [hg'.cell, Nat.zero_add]; exact hv) hu hd hi'
  have ha : ∀ W g, (asAddr (.pointer (some ⟨g, 0, none⟩))).run P W = .ok ⟨g, 0, none⟩ W := fun _ _ => rfl
  simp only [results, h]
  simp only [List.mapM_cons, List.mapM_nil, hp, hq, bind_pure_comp, map_pure, Array.mapM_eq_mapM_toList]
  simp [Sem.run_bind, ha, hl, hl', Result.andThen]
/-- The call's own blocks at its beginning. -/
structure PairStart (w w0 : World) (old : List UInt8) : Prop where
  bel : Below w.heap.size w w0
  old : Blk w0 w.heap.size 30 (old.map bv)
  x : Blk w0 (w.heap.size + 1) 30 (zeroD.map bv)
  y : Blk w0 (w.heap.size + 1 + 1) 30 (zeroD.map bv)
theorem pair_start (w : World) (old : List UInt8) : PairStart w (((w.alloc (.cells (old.map bv).toArray 30)).alloc (.cells (zeroD.map bv).toArray 30)).alloc (.cells (zeroD.map bv).toArray 30)) old := by
  have hz1 : (w.alloc (.cells (old.map bv).toArray 30)).heap.size = w.heap.size + 1 := by simp
  have hz2 : ((w.alloc (.cells (old.map bv).toArray 30)).alloc (.cells (zeroD.map bv).toArray 30)).heap.size = w.heap.size + 1 + 1 := by simp
  exact ⟨((below_new w _).alloc (by rw [hz1]; omega) _).alloc (by rw [hz2]; omega) _, ((Blk.new w 30 (old.map bv)).alloc _).alloc _,
    (hz1 ▸ Blk.new (w.alloc (.cells (old.map bv).toArray 30)) 30 (zeroD.map bv) : Blk _ (w.heap.size + 1) _ _).alloc _,
    hz2 ▸ Blk.new ((w.alloc (.cells (old.map bv).toArray 30)).alloc (.cells (zeroD.map bv).toArray 30)) 30 (zeroD.map bv)⟩

set_option maxHeartbeats 800000 in
set_option maxRecDepth 100000 in
theorem pair_whole (old : List UInt8) (ho : old.length = 16) (A : Option Addr) (n p c : Nat) (w : World) (hn : n ≤ 9223372036854775807) (hp : p ≤ 1000000000) :
    Calls Tryd.prog 49 #[dv old, .int .i64 (n : Int), .int .i64 (n : Int), .bool true, .slice A p c] w fun e w' => e = .returned (.tuple #[dv old, dv old, .bool (decide (p = 0))]) ∧ Below w.heap.size w w' := by
  obtain ⟨w0, hw0⟩ : ∃ W, W = ((w.alloc (.cells (old.map bv).toArray 30)).alloc (.cells (zeroD.map bv).toArray 30)).alloc (.cells (zeroD.map bv).toArray 30) := ⟨_, rfl⟩
  have HP0 : Hid (PairStart w w0 old) := by rw [hw0]; exact pair_start w old
  rw [zero_cells] at hw0
  have HW0 := hideIt hw0
  have HO := hideIt ho
  clear hw0
  by_cases hp0 : p = 0
  · subst hp0
    go_enter Tryd.func49, Tryd.ntmps49
    go_wp2_with fail
    rw [show ((w.alloc (.cells (old.map bv).toArray 30)).alloc (.cells #[Value.int .u8 0, Value.int .u8 0, Value.int .u8 0, Value.int .u8 0, Value.int .u8 0, Value.int .u8 0, Value.int .u8 0, Value.int .u8 0, Value.int .u8 0, Value.int .u8 0, Value.int .u8 0, Value.int .u8 0, Value.int .u8 0, Value.int .u8 0, Value.int .u8 0, Value.int .u8 0] 30)).alloc (.cells #[Value.int .u8 0, Value.int .u8 0, Value.int .u8 0, Value.int .u8 0, Value.int .u8 0, Value.int .u8 0, Value.int .u8 0, Value.int .u8 0, Value.int .u8 0, Value.int .u8 0, Value.int .u8 0, Value.int .u8 0, Value.int .u8 0, Value.int .u8 0, Value.int .u8 0, Value.int .u8 0] 30) = w0 from HW0.out.symm]
    refine loads_begin [(4, fun W' => Blk W' w.heap.size 30 (old.map bv)), (5, fun W' => Blk W' w.heap.size 30 (old.map bv))] (by kernel_rfl) ?_
    refine wpAnyL_take (oi := ⟨some 27, _, _, _, _, _⟩) 0 4 (.agg (old.map bv).toArray) _ rfl (by kernel_rfl) (by kernel_rfl) (by kernel_rfl) (by kernel_rfl) (by kernel_rfl) (by kernel_rfl) (.head _) (fun _ _ _ h => h) (by kernel_rfl) (fun W' hW' => exec_load_blk rfl rfl (hW') (.array 16 5) (by kernel_rfl) rfl (isize16 _ HO.out)) (Hooks.add HP0.out.old (Hooks.add HP0.out.old (Hooks.nil _ _))) ?_
    try simp only [Act.put]
    try simp only [List.setIfInBounds_toArray]
    try simp only [List.set_cons_succ]
    try simp only [List.set_cons_zero]
    refine wpAnyL_take (oi := ⟨some 28, _, _, _, _, _⟩) 1 5 (.agg (old.map bv).toArray) _ rfl (by kernel_rfl) (by kernel_rfl) (by kernel_rfl) (by kernel_rfl) (by kernel_rfl) (by kernel_rfl) (.tail _ (.head _)) (fun _ _ _ h => h) (by kernel_rfl) (fun W' hW' => exec_load_blk rfl rfl (hW') (.array 16 5) (by kernel_rfl) rfl (isize16 _ HO.out)) (Hooks.add HP0.out.old (Hooks.add HP0.out.old (Hooks.nil _ _))) ?_
    try simp only [Act.put]
    try simp only [List.setIfInBounds_toArray]
    try simp only [List.set_cons_succ]
    try simp only [List.set_cons_zero]
    refine wpAnyL_move (oi := ⟨some 29, _, _, _, _, _⟩) 2 ?_ rfl (by kernel_rfl) (by kernel_rfl) (by kernel_rfl) (by kernel_rfl) (fun _ _ _ h => h) (by kernel_rfl) ?_ (Hooks.add HP0.out.old (Hooks.add HP0.out.old (Hooks.nil _ _))) ?_
    rotate_left
    · intro W'; go_simp; first | done | with_reducible rfl
    try simp only [Act.put]
    try simp only [List.setIfInBounds_toArray]
    try simp only [List.set_cons_succ]
    try simp only [List.set_cons_zero]
    refine wpAnyL_move (oi := ⟨some 30, _, _, _, _, _⟩) 3 ?_ rfl (by kernel_rfl) (by kernel_rfl) (by kernel_rfl) (by kernel_rfl) (fun _ _ _ h => h) (by kernel_rfl) ?_ (Hooks.add HP0.out.old (Hooks.add HP0.out.old (Hooks.nil _ _))) ?_
    rotate_left
    · intro W'; go_simp; first | done | with_reducible rfl
    try simp only [Act.put]
    try simp only [List.setIfInBounds_toArray]
    try simp only [List.set_cons_succ]
    try simp only [List.set_cons_zero]
    refine wpAnyL_one 4 (by kernel_rfl) rfl (fun K hK => ?_)
    refine wpList_put rfl 30 (.tmp 10) (.tmp 27) rfl (w.heap.size + 1) (old.map bv) _ _ rfl rfl (show Blk w0.drew _ _ _ from HP0.out.x) (by rw [List.length_map, HO.out]; kernel_rfl) (by rw [List.length_map, List.length_map, HO.out]; rfl) (bv_one _) ?_; intro w1 ht hb; have HT1 := hideIt ht; have HB1 := hideIt hb; clear ht hb
    refine hK _ _ (Hooks.skip (by kernel_rfl) (Hooks.add (HT1.out.blk HP0.out.old (by omega)) (Hooks.nil _ _))) ?_
    clear hK K
    refine loads_tail 5 (by kernel_rfl) (by kernel_rfl) (by kernel_rfl) (by kernel_rfl) ?_
    simp only [List.drop_succ_cons, List.drop_zero]
    go_wp2_with (first
      | ((with_reducible refine at_store ?_); refine wpList_put rfl 30 (.tmp 11) (.tmp 28) rfl (w.heap.size + 1 + 1) (old.map bv) _ _ rfl rfl (HT1.out.blk (show Blk w0.drew _ _ _ from HP0.out.y) (by omega)) (by rw [List.length_map, HO.out]; kernel_rfl) (by rw [List.length_map, List.length_map, HO.out]; rfl) (bv_one _) ?_; intro w2 ht hb; have HT2 := hideIt ht; have HB2 := hideIt hb; clear ht hb))
    exact bodyPost_ret (results_pair rfl _ _ (w.heap.size + 1) (w.heap.size + 1 + 1) 30 (old.map bv) (old.map bv) (.array 16 5) rfl rfl (HT2.out.blk HB1.out (by omega)) HB2.out (by kernel_rfl) rfl (isize16 _ HO.out) (isize16 _ HO.out)) rfl ⟨rfl, HT2.out.below (HT1.out.below HP0.out.bel.drew (by omega)) (by omega)⟩
  · have hlt : decide ((p : Int) - 1 < 0) = false := by simp; omega
    rw [decide_eq_false hp0]
    go_enter Tryd.func49, Tryd.ntmps49
    go_wp2_with fail
    rw [show ((w.alloc (.cells (old.map bv).toArray 30)).alloc (.cells #[Value.int .u8 0, Value.int .u8 0, Value.int .u8 0, Value.int .u8 0, Value.int .u8 0, Value.int .u8 0, Value.int .u8 0, Value.int .u8 0, Value.int .u8 0, Value.int .u8 0, Value.int .u8 0, Value.int .u8 0, Value.int .u8 0, Value.int .u8 0, Value.int .u8 0, Value.int .u8 0] 30)).alloc (.cells #[Value.int .u8 0, Value.int .u8 0, Value.int .u8 0, Value.int .u8 0, Value.int .u8 0, Value.int .u8 0, Value.int .u8 0, Value.int .u8 0, Value.int .u8 0, Value.int .u8 0, Value.int .u8 0, Value.int .u8 0, Value.int .u8 0, Value.int .u8 0, Value.int .u8 0, Value.int .u8 0] 30) = w0 from HW0.out.symm]
    refine loads_begin [(4, fun W' => Blk W' w.heap.size 30 (old.map bv)), (5, fun W' => Blk W' w.heap.size 30 (old.map bv))] (by kernel_rfl) ?_
    refine wpAnyL_take (oi := ⟨some 27, _, _, _, _, _⟩) 0 4 (.agg (old.map bv).toArray) _ rfl (by kernel_rfl) (by kernel_rfl) (by kernel_rfl) (by kernel_rfl) (by kernel_rfl) (by kernel_rfl) (.head _) (fun _ _ _ h => h) (by kernel_rfl) (fun W' hW' => exec_load_blk rfl rfl (hW') (.array 16 5) (by kernel_rfl) rfl (isize16 _ HO.out)) (Hooks.add HP0.out.old (Hooks.add HP0.out.old (Hooks.nil _ _))) ?_
    try simp only [Act.put]
    try simp only [List.setIfInBounds_toArray]
    try simp only [List.set_cons_succ]
    try simp only [List.set_cons_zero]
    refine wpAnyL_take (oi := ⟨some 28, _, _, _, _, _⟩) 1 5 (.agg (old.map bv).toArray) _ rfl (by kernel_rfl) (by kernel_rfl) (by kernel_rfl) (by kernel_rfl) (by kernel_rfl) (by kernel_rfl) (.tail _ (.head _)) (fun _ _ _ h => h) (by kernel_rfl) (fun W' hW' => exec_load_blk rfl rfl (hW') (.array 16 5) (by kernel_rfl) rfl (isize16 _ HO.out)) (Hooks.add HP0.out.old (Hooks.add HP0.out.old (Hooks.nil _ _))) ?_
    try simp only [Act.put]
    try simp only [List.setIfInBounds_toArray]
    try simp only [List.set_cons_succ]
    try simp only [List.set_cons_zero]
    refine wpAnyL_move (oi := ⟨some 29, _, _, _, _, _⟩) 2 ?_ rfl (by kernel_rfl) (by kernel_rfl) (by kernel_rfl) (by kernel_rfl) (fun _ _ _ h => h) (by kernel_rfl) ?_ (Hooks.add HP0.out.old (Hooks.add HP0.out.old (Hooks.nil _ _))) ?_
    rotate_left
    · intro W'; go_simp; first | done | with_reducible rfl
    try simp only [Act.put]
    try simp only [List.setIfInBounds_toArray]
    try simp only [List.set_cons_succ]
    try simp only [List.set_cons_zero]
    refine wpAnyL_move (oi := ⟨some 30, _, _, _, _, _⟩) 3 ?_ rfl (by kernel_rfl) (by kernel_rfl) (by kernel_rfl) (by kernel_rfl) (fun _ _ _ h => h) (by kernel_rfl) ?_ (Hooks.add HP0.out.old (Hooks.add HP0.out.old (Hooks.nil _ _))) ?_
    rotate_left
    · intro W'; go_simp; first | done | with_reducible rfl
    try simp only [Act.put]
    try simp only [List.setIfInBounds_toArray]
    try simp only [List.set_cons_succ]
    try simp only [List.set_cons_zero]
    refine wpAnyL_one 4 (by kernel_rfl) rfl (fun K hK => ?_)
    refine wpList_put rfl 30 (.tmp 10) (.tmp 27) rfl (w.heap.size + 1) (old.map bv) _ _ rfl rfl (show Blk w0.drew _ _ _ from HP0.out.x) (by rw [List.length_map, HO.out]; kernel_rfl) (by rw [List.length_map, List.length_map, HO.out]; rfl) (bv_one _) ?_; intro w1 ht hb; have HT1 := hideIt ht; have HB1 := hideIt hb; clear ht hb
    refine hK _ _ (Hooks.skip (by kernel_rfl) (Hooks.add (HT1.out.blk HP0.out.old (by omega)) (Hooks.nil _ _))) ?_
    clear hK K
    refine loads_tail 5 (by kernel_rfl) (by kernel_rfl) (by kernel_rfl) (by kernel_rfl) ?_
    simp only [List.drop_succ_cons, List.drop_zero]
    go_wp2_with (first
      | ((with_reducible refine at_store ?_); refine wpList_put rfl 30 (.tmp 11) (.tmp 28) rfl (w.heap.size + 1 + 1) (old.map bv) _ _ rfl rfl (HT1.out.blk (show Blk w0.drew _ _ _ from HP0.out.y) (by omega)) (by rw [List.length_map, HO.out]; kernel_rfl) (by rw [List.length_map, List.length_map, HO.out]; rfl) (bv_one _) ?_; intro w2 ht hb; have HT2 := hideIt ht; have HB2 := hideIt hb; clear ht hb))
    exact bodyPost_ret (results_pair rfl _ _ (w.heap.size + 1) (w.heap.size + 1 + 1) 30 (old.map bv) (old.map bv) (.array 16 5) rfl rfl (HT2.out.blk HB1.out (by omega)) HB2.out (by kernel_rfl) rfl (isize16 _ HO.out) (isize16 _ HO.out)) rfl ⟨rfl, HT2.out.below (HT1.out.below HP0.out.bel.drew (by omega)) (by omega)⟩

set_option maxHeartbeats 800000 in
set_option maxRecDepth 100000 in
theorem pair_short (old : List UInt8) (ho : old.length = 16) (A : Option Addr) (m n c : Nat) (whole : Bool) (w : World) (hn : n ≤ 9223372036854775807) (hm : m ≤ n) (hb : ¬ (m = n ∧ whole = true)) :
    Calls Tryd.prog 49 #[dv old, .int .i64 (m : Int), .int .i64 (n : Int), .bool whole, .slice A 0 c] w fun e w' => e = .returned (.tuple #[dv zeroD, dv zeroD, .bool false]) ∧ Below w.heap.size w w' := by
  obtain ⟨w0, hw0⟩ : ∃ W, W = ((w.alloc (.cells (old.map bv).toArray 30)).alloc (.cells (zeroD.map bv).toArray 30)).alloc (.cells (zeroD.map bv).toArray 30) := ⟨_, rfl⟩
  have HP0 : Hid (PairStart w w0 old) := by rw [hw0]; exact pair_start w old
  rw [zero_cells] at hw0
  have HW0 := hideIt hw0
  have HO := hideIt ho
  clear hw0
  by_cases hmn : m = n
  · subst hmn
    obtain rfl : whole = false := by cases whole <;> simp_all
    clear hb
    go_enter Tryd.func49, Tryd.ntmps49
    go_wp2_with fail
    rw [show ((w.alloc (.cells (old.map bv).toArray 30)).alloc (.cells #[Value.int .u8 0, Value.int .u8 0, Value.int .u8 0, Value.int .u8 0, Value.int .u8 0, Value.int .u8 0, Value.int .u8 0, Value.int .u8 0, Value.int .u8 0, Value.int .u8 0, Value.int .u8 0, Value.int .u8 0, Value.int .u8 0, Value.int .u8 0, Value.int .u8 0, Value.int .u8 0] 30)).alloc (.cells #[Value.int .u8 0, Value.int .u8 0, Value.int .u8 0, Value.int .u8 0, Value.int .u8 0, Value.int .u8 0, Value.int .u8 0, Value.int .u8 0, Value.int .u8 0, Value.int .u8 0, Value.int .u8 0, Value.int .u8 0, Value.int .u8 0, Value.int .u8 0, Value.int .u8 0, Value.int .u8 0] 30) = w0 from HW0.out.symm]
    refine loads_begin [(2, fun W' => Blk W' (w.heap.size + 1) 30 (zeroD.map bv)), (3, fun W' => Blk W' (w.heap.size + 1 + 1) 30 (zeroD.map bv))] (by kernel_rfl) ?_
    refine wpAnyL_take (oi := ⟨some 34, _, _, _, _, _⟩) 0 2 (.agg (zeroD.map bv).toArray) _ rfl (by kernel_rfl) (by kernel_rfl) (by kernel_rfl) (by kernel_rfl) (by kernel_rfl) (by kernel_rfl) (.head _) (fun _ _ _ h => h) (by kernel_rfl) (fun W' hW' => exec_load_blk rfl rfl (hW') (.array 16 5) (by kernel_rfl) rfl (isize16 _ rfl)) (Hooks.add HP0.out.x (Hooks.add HP0.out.y (Hooks.nil _ _))) ?_
    try simp only [Act.put]
    try simp only [List.setIfInBounds_toArray]
    try simp only [List.set_cons_succ]
    try simp only [List.set_cons_zero]
    refine wpAnyL_take (oi := ⟨some 35, _, _, _, _, _⟩) 1 3 (.agg (zeroD.map bv).toArray) _ rfl (by kernel_rfl) (by kernel_rfl) (by kernel_rfl) (by kernel_rfl) (by kernel_rfl) (by kernel_rfl) (.tail _ (.head _)) (fun _ _ _ h => h) (by kernel_rfl) (fun W' hW' => exec_load_blk rfl rfl (hW') (.array 16 5) (by kernel_rfl) rfl (isize16 _ rfl)) (Hooks.add HP0.out.x (Hooks.add HP0.out.y (Hooks.nil _ _))) ?_
    try simp only [Act.put]
    try simp only [List.setIfInBounds_toArray]
    try simp only [List.set_cons_succ]
    try simp only [List.set_cons_zero]
    refine wpAnyL_one 2 (by kernel_rfl) rfl (fun K hK => ?_)
    refine wpList_put rfl 30 (.tmp 10) (.tmp 34) rfl (w.heap.size + 1) (zeroD.map bv) _ _ rfl rfl (show Blk w0.drew _ _ _ from HP0.out.x) (by kernel_rfl) rfl (bv_one _) ?_; intro w1 ht hb; have HT1 := hideIt ht; have HB1 := hideIt hb; clear ht hb
    refine hK _ _ (Hooks.skip (by kernel_rfl) (Hooks.add (HT1.out.blk HP0.out.y (by omega)) (Hooks.nil _ _))) ?_
    clear hK K
    refine loads_tail 3 (by kernel_rfl) (by kernel_rfl) (by kernel_rfl) (by kernel_rfl) ?_
    simp only [List.drop_succ_cons, List.drop_zero]
    go_wp2_with (first
      | ((with_reducible refine at_store ?_); refine wpList_put rfl 30 (.tmp 11) (.tmp 35) rfl (w.heap.size + 1 + 1) (zeroD.map bv) _ _ rfl rfl (HT1.out.blk (show Blk w0.drew _ _ _ from HP0.out.y) (by omega)) (by kernel_rfl) rfl (bv_one _) ?_; intro w2 ht hb; have HT2 := hideIt ht; have HB2 := hideIt hb; clear ht hb))
    exact bodyPost_ret (results_pair rfl _ _ (w.heap.size + 1) (w.heap.size + 1 + 1) 30 (zeroD.map bv) (zeroD.map bv) (.array 16 5) rfl rfl (HT2.out.blk HB1.out (by omega)) HB2.out (by kernel_rfl) rfl (isize16 _ rfl) (isize16 _ rfl)) rfl ⟨rfl, HT2.out.below (HT1.out.below HP0.out.bel.drew (by omega)) (by omega)⟩
  · have hne : ((m : Int) == (n : Int)) = false := by rw [beq_eq_false_iff_ne]; omega
    clear hb hmn
    go_enter Tryd.func49, Tryd.ntmps49
    go_wp2_with fail
    rw [show ((w.alloc (.cells (old.map bv).toArray 30)).alloc (.cells #[Value.int .u8 0, Value.int .u8 0, Value.int .u8 0, Value.int .u8 0, Value.int .u8 0, Value.int .u8 0, Value.int .u8 0, Value.int .u8 0, Value.int .u8 0, Value.int .u8 0, Value.int .u8 0, Value.int .u8 0, Value.int .u8 0, Value.int .u8 0, Value.int .u8 0, Value.int .u8 0] 30)).alloc (.cells #[Value.int .u8 0, Value.int .u8 0, Value.int .u8 0, Value.int .u8 0, Value.int .u8 0, Value.int .u8 0, Value.int .u8 0, Value.int .u8 0, Value.int .u8 0, Value.int .u8 0, Value.int .u8 0, Value.int .u8 0, Value.int .u8 0, Value.int .u8 0, Value.int .u8 0, Value.int .u8 0] 30) = w0 from HW0.out.symm]
    refine loads_begin [(2, fun W' => Blk W' (w.heap.size + 1) 30 (zeroD.map bv)), (3, fun W' => Blk W' (w.heap.size + 1 + 1) 30 (zeroD.map bv))] (by kernel_rfl) ?_
    refine wpAnyL_take (oi := ⟨some 34, _, _, _, _, _⟩) 0 2 (.agg (zeroD.map bv).toArray) _ rfl (by kernel_rfl) (by kernel_rfl) (by kernel_rfl) (by kernel_rfl) (by kernel_rfl) (by kernel_rfl) (.head _) (fun _ _ _ h => h) (by kernel_rfl) (fun W' hW' => exec_load_blk rfl rfl (hW') (.array 16 5) (by kernel_rfl) rfl (isize16 _ rfl)) (Hooks.add HP0.out.x (Hooks.add HP0.out.y (Hooks.nil _ _))) ?_
    try simp only [Act.put]
    try simp only [List.setIfInBounds_toArray]
    try simp only [List.set_cons_succ]
    try simp only [List.set_cons_zero]
    refine wpAnyL_take (oi := ⟨some 35, _, _, _, _, _⟩) 1 3 (.agg (zeroD.map bv).toArray) _ rfl (by kernel_rfl) (by kernel_rfl) (by kernel_rfl) (by kernel_rfl) (by kernel_rfl) (by kernel_rfl) (.tail _ (.head _)) (fun _ _ _ h => h) (by kernel_rfl) (fun W' hW' => exec_load_blk rfl rfl (hW') (.array 16 5) (by kernel_rfl) rfl (isize16 _ rfl)) (Hooks.add HP0.out.x (Hooks.add HP0.out.y (Hooks.nil _ _))) ?_
    try simp only [Act.put]
    try simp only [List.setIfInBounds_toArray]
    try simp only [List.set_cons_succ]
    try simp only [List.set_cons_zero]
    refine wpAnyL_one 2 (by kernel_rfl) rfl (fun K hK => ?_)
    refine wpList_put rfl 30 (.tmp 10) (.tmp 34) rfl (w.heap.size + 1) (zeroD.map bv) _ _ rfl rfl (show Blk w0.drew _ _ _ from HP0.out.x) (by kernel_rfl) rfl (bv_one _) ?_; intro w1 ht hb; have HT1 := hideIt ht; have HB1 := hideIt hb; clear ht hb
    refine hK _ _ (Hooks.skip (by kernel_rfl) (Hooks.add (HT1.out.blk HP0.out.y (by omega)) (Hooks.nil _ _))) ?_
    clear hK K
    refine loads_tail 3 (by kernel_rfl) (by kernel_rfl) (by kernel_rfl) (by kernel_rfl) ?_
    simp only [List.drop_succ_cons, List.drop_zero]
    go_wp2_with (first
      | ((with_reducible refine at_store ?_); refine wpList_put rfl 30 (.tmp 11) (.tmp 35) rfl (w.heap.size + 1 + 1) (zeroD.map bv) _ _ rfl rfl (HT1.out.blk (show Blk w0.drew _ _ _ from HP0.out.y) (by omega)) (by kernel_rfl) rfl (bv_one _) ?_; intro w2 ht hb; have HT2 := hideIt ht; have HB2 := hideIt hb; clear ht hb))
    exact bodyPost_ret (results_pair rfl _ _ (w.heap.size + 1) (w.heap.size + 1 + 1) 30 (zeroD.map bv) (zeroD.map bv) (.array 16 5) rfl rfl (HT2.out.blk HB1.out (by omega)) HB2.out (by kernel_rfl) rfl (isize16 _ rfl) (isize16 _ rfl)) rfl ⟨rfl, HT2.out.below (HT1.out.below HP0.out.bel.drew (by omega)) (by omega)⟩

set_option maxHeartbeats 800000 in
set_option maxRecDepth 100000 in
theorem pair_one (old : List UInt8) (ho : old.length = 16) (A : Option Addr) (B n p c : Nat) (ds : List (List UInt8)) (w : World) (hn : n ≤ 9223372036854775807) (hp : p + 1 ≤ 1000000000) (hD : Ds w B A ds.length ds) (hpd : p + 1 ≤ ds.length) (hB : B ≤ w.heap.size) :
    Calls Tryd.prog 49 #[dv old, .int .i64 (n : Int), .int .i64 (n : Int), .bool false, .slice A (p + 1) c] w fun e w' => e = .returned (.tuple #[dv (ds.getD 0 []), dv (ds.getD 0 []), .bool (decide (p = 0))]) ∧ Below w.heap.size w w' := by
  obtain ⟨w0, hw0⟩ : ∃ W, W = ((w.alloc (.cells (old.map bv).toArray 30)).alloc (.cells (zeroD.map bv).toArray 30)).alloc (.cells (zeroD.map bv).toArray 30) := ⟨_, rfl⟩
  have HP0 : Hid (PairStart w w0 old) := by rw [hw0]; exact pair_start w old
  rw [zero_cells] at hw0
  have HW0 := hideIt hw0
  have HO := hideIt ho
  clear hw0
  obtain ⟨b, off, rfl, hb, hc, hdl⟩ := ds_load (hD.below HP0.out.bel hB) (k := 0) (by omega)
  obtain ⟨d, hd⟩ : ∃ d, d = ds.getD 0 [] := ⟨_, rfl⟩
  rw [← hd] at hc hdl ⊢
  have hq : ((p + 1 : Nat) : Int) - 1 = (p : Int) := by omega
  have HQ := hideIt hq
  obtain ⟨q, hqe⟩ : ∃ q, q = decide (p = 0) := ⟨_, rfl⟩
  have hqq : ((p : Int) == 0) = q := by rw [hqe, Bool.eq_iff_iff]; simp
  rw [← hqe]
  have HC := hideIt hc
  have HDL := hideIt hdl
  clear hd hc hdl hD hq hqe ho
  go_enter Tryd.func49, Tryd.ntmps49
  go_wp2_with fail
  rw [show ((w.alloc (.cells (old.map bv).toArray 30)).alloc (.cells #[Value.int .u8 0, Value.int .u8 0, Value.int .u8 0, Value.int .u8 0, Value.int .u8 0, Value.int .u8 0, Value.int .u8 0, Value.int .u8 0, Value.int .u8 0, Value.int .u8 0, Value.int .u8 0, Value.int .u8 0, Value.int .u8 0, Value.int .u8 0, Value.int .u8 0, Value.int .u8 0] 30)).alloc (.cells #[Value.int .u8 0, Value.int .u8 0, Value.int .u8 0, Value.int .u8 0, Value.int .u8 0, Value.int .u8 0, Value.int .u8 0, Value.int .u8 0, Value.int .u8 0, Value.int .u8 0, Value.int .u8 0, Value.int .u8 0, Value.int .u8 0, Value.int .u8 0, Value.int .u8 0, Value.int .u8 0] 30) = w0 from HW0.out.symm]
  refine loads_begin [(8, fun W' => Has16 W' ⟨b, off, none⟩ d), (9, fun W' => Has16 W' ⟨b, off, none⟩ d)] (by kernel_rfl) ?_
  refine wpAnyL_move (oi := ⟨some 40, _, _, _, _, _⟩) 0 ?_ rfl (by kernel_rfl) (by kernel_rfl) (by kernel_rfl) (by kernel_rfl) (fun _ _ _ h => h) (by kernel_rfl) ?_ (Hooks.add HC.out (Hooks.add HC.out (Hooks.nil _ _))) ?_
  rotate_left
  · intro W'; go_simp; first | done | with_reducible rfl
  try simp only [Act.put]
  try simp only [List.setIfInBounds_toArray]
  try simp only [List.set_cons_succ]
  try simp only [List.set_cons_zero]
  refine wpAnyL_move (oi := ⟨some 41, _, _, _, _, _⟩) 1 ?_ rfl (by kernel_rfl) (by kernel_rfl) (by kernel_rfl) (by kernel_rfl) (fun _ _ _ h => h) (by kernel_rfl) ?_ (Hooks.add HC.out (Hooks.add HC.out (Hooks.nil _ _))) ?_
  rotate_left
  · intro W'; go_simp; first | done | with_reducible rfl
  try simp only [Act.put]
  try simp only [List.setIfInBounds_toArray]
  try simp only [List.set_cons_succ]
  try simp only [List.set_cons_zero]
  refine wpAnyL_take (oi := ⟨some 42, _, _, _, _, _⟩) 2 8 (.agg (d.map bv).toArray) _ rfl (by kernel_rfl) (by kernel_rfl) (by kernel_rfl) (by kernel_rfl) (by kernel_rfl) (by kernel_rfl) (.head _) (fun _ _ _ h => h) (by kernel_rfl) (fun W' hW' => exec_load_mid rfl rfl (range16 (hW')) (.array 16 5) (by kernel_rfl) rfl (isize16 _ HDL.out)) (Hooks.add HC.out (Hooks.add HC.out (Hooks.nil _ _))) ?_
  try simp only [Act.put]
  try simp only [List.setIfInBounds_toArray]
  try simp only [List.set_cons_succ]
  try simp only [List.set_cons_zero]
  refine wpAnyL_move (oi := ⟨some 43, _, _, _, _, _⟩) 3 ?_ rfl (by kernel_rfl) (by kernel_rfl) (by kernel_rfl) (by kernel_rfl) (fun _ _ _ h => h) (by kernel_rfl) ?_ (Hooks.add HC.out (Hooks.add HC.out (Hooks.nil _ _))) ?_
  rotate_left
  · intro W'; go_simp; first | done | with_reducible rfl
  try simp only [Act.put]
  try simp only [List.setIfInBounds_toArray]
  try simp only [List.set_cons_succ]
  try simp only [List.set_cons_zero]
  refine wpAnyL_move (oi := ⟨some 44, _, _, _, _, _⟩) 4 ?_ rfl (by kernel_rfl) (by kernel_rfl) (by kernel_rfl) (by kernel_rfl) (fun _ _ _ h => h) (by kernel_rfl) ?_ (Hooks.add HC.out (Hooks.add HC.out (Hooks.nil _ _))) ?_
  rotate_left
  · intro W'; go_simp; first | done | with_reducible rfl
  try simp only [Act.put]
  try simp only [List.setIfInBounds_toArray]
  try simp only [List.set_cons_succ]
  try simp only [List.set_cons_zero]
  refine wpAnyL_take (oi := ⟨some 45, _, _, _, _, _⟩) 5 9 (.agg (d.map bv).toArray) _ rfl (by kernel_rfl) (by kernel_rfl) (by kernel_rfl) (by kernel_rfl) (by kernel_rfl) (by kernel_rfl) (.tail _ (.head _)) (fun _ _ _ h => h) (by kernel_rfl) (fun W' hW' => exec_load_mid rfl rfl (range16 (hW')) (.array 16 5) (by kernel_rfl) rfl (isize16 _ HDL.out)) (Hooks.add HC.out (Hooks.add HC.out (Hooks.nil _ _))) ?_
  try simp only [Act.put]
  try simp only [List.setIfInBounds_toArray]
  try simp only [List.set_cons_succ]
  try simp only [List.set_cons_zero]
  refine wpAnyL_move (oi := ⟨some 46, _, _, _, _, _⟩) 6 ?_ rfl (by kernel_rfl) (by kernel_rfl) (by kernel_rfl) (by kernel_rfl) (fun _ _ _ h => h) (by kernel_rfl) ?_ (Hooks.add HC.out (Hooks.add HC.out (Hooks.nil _ _))) ?_
  rotate_left
  · intro W'; go_simp; first | done | with_reducible rfl
  try simp only [Act.put]
  try simp only [List.setIfInBounds_toArray]
  try simp only [List.set_cons_succ]
  try simp only [List.set_cons_zero]
  refine wpAnyL_move (oi := ⟨some 47, _, _, _, _, _⟩) 7 ?_ rfl (by kernel_rfl) (by kernel_rfl) (by kernel_rfl) (by kernel_rfl) (fun _ _ _ h => h) (by kernel_rfl) ?_ (Hooks.add HC.out (Hooks.add HC.out (Hooks.nil _ _))) ?_
  rotate_left
  · intro W'; go_simp; first | done | with_reducible rfl
  try simp only [Act.put]
  try simp only [List.setIfInBounds_toArray]
  try simp only [List.set_cons_succ]
  try simp only [List.set_cons_zero]
  refine wpAnyL_one 8 (by kernel_rfl) rfl (fun K hK => ?_)
  refine wpList_put rfl 30 (.tmp 10) (.tmp 42) rfl (w.heap.size + 1) (d.map bv) _ _ rfl rfl (show Blk w0.drew _ _ _ from HP0.out.x) (by rw [List.length_map, HDL.out]; kernel_rfl) (by rw [List.length_map, List.length_map, HDL.out]; rfl) (bv_one _) ?_; intro w1 ht hb; have HT1 := hideIt ht; have HB1 := hideIt hb; clear ht hb
  refine hK _ _ (Hooks.skip (by kernel_rfl) (Hooks.add ((show Has16 w0.drew ⟨b, off, none⟩ d from HC.out).turned HT1.out (show b ≠ w.heap.size + 1 by omega)) (Hooks.nil _ _))) ?_
  clear hK K
  refine loads_tail 9 (by kernel_rfl) (by kernel_rfl) (by kernel_rfl) (by kernel_rfl) ?_
  simp only [List.drop_succ_cons, List.drop_zero]
  go_wp2_with (first
    | ((with_reducible refine at_store ?_); refine wpList_put rfl 30 (.tmp 11) (.tmp 45) rfl (w.heap.size + 1 + 1) (d.map bv) _ _ rfl rfl (HT1.out.blk (show Blk w0.drew _ _ _ from HP0.out.y) (by omega)) (by rw [List.length_map, HDL.out]; kernel_rfl) (by rw [List.length_map, List.length_map, HDL.out]; rfl) (bv_one _) ?_; intro w2 ht hb; have HT2 := hideIt ht; have HB2 := hideIt hb; clear ht hb))
  exact bodyPost_ret (results_pair rfl _ _ (w.heap.size + 1) (w.heap.size + 1 + 1) 30 (d.map bv) (d.map bv) (.array 16 5) rfl rfl (HT2.out.blk HB1.out (by omega)) HB2.out (by kernel_rfl) rfl (isize16 _ HDL.out) (isize16 _ HDL.out)) rfl ⟨rfl, HT2.out.below (HT1.out.below HP0.out.bel.drew (by omega)) (by omega)⟩

set_option maxHeartbeats 1600000 in
set_option maxRecDepth 100000 in
theorem pair_left (old : List UInt8) (ho : old.length = 16) (A : Option Addr) (B m n p c : Nat) (whole : Bool) (ds : List (List UInt8)) (w : World) (hn : n ≤ 9223372036854775807) (hm1 : 1 ≤ m) (hm : m < n) (hk : m ≤ splitK n) (hp : p + 1 ≤ 1000000000) (hD : Ds w B A ds.length ds) (hpd : p + 1 ≤ ds.length) (hpc : p + 1 ≤ c) (hB : B ≤ w.heap.size) (hT : Tab w 1)
    (x y : List UInt8) (hx : x.length = 16) (hy : y.length = 16) (ok : Bool)
    (hrec : ∀ W, Below w.heap.size w W → Calls Tryd.prog 49 #[dv old, .int .i64 (m : Int), .int .i64 (splitK n : Int), .bool whole, .slice A p c] W fun e w' => e = .returned (.tuple #[dv x, dv y, .bool ok]) ∧ Below W.heap.size W w') :
    Calls Tryd.prog 49 #[dv old, .int .i64 (m : Int), .int .i64 (n : Int), .bool whole, .slice A (p + 1) c] w fun e w' => e = .returned (.tuple #[dv x, dv (nodeD y (ds.getD p [])), .bool ok]) ∧ Below w.heap.size w w' := by
  obtain ⟨w0, hw0⟩ : ∃ W, W = ((w.alloc (.cells (old.map bv).toArray 30)).alloc (.cells (zeroD.map bv).toArray 30)).alloc (.cells (zeroD.map bv).toArray 30) := ⟨_, rfl⟩
  have HP0 : Hid (PairStart w w0 old) := by rw [hw0]; exact pair_start w old
  rw [zero_cells] at hw0
  have HW0 := hideIt hw0
  have HO := hideIt ho
  clear hw0
  obtain ⟨b, off, hAe, hbB, hc, hdl⟩ := ds_load (hD.below HP0.out.bel hB) (k := p) (by omega)
  have hhi := fun W => run_hi A (n := p + 1) (cap := c) (k := p) (by omega) W
  rw [hAe] at hhi hrec ⊢
  clear hAe
  obtain ⟨d, hd⟩ : ∃ d, d = ds.getD p [] := ⟨_, rfl⟩
  rw [← hd] at hc hdl ⊢
  have hne : ((m : Int) == (n : Int)) = false := by rw [beq_eq_false_iff_ne]; omega
  have HSP := hideIt (fun W => split_any n (by omega) hn W)
  have hsp := splitK_spec n (by omega)
  obtain ⟨k, hke⟩ : ∃ k, k = splitK n := ⟨_, rfl⟩
  rw [← hke] at HSP hk hrec hsp
  obtain ⟨s1, s2, s3⟩ := hsp
  have hpp : (p : Int) < (p : Int) + 1 := by omega
  have htest : decide ((m : Int) ≤ (k : Int)) = true := by simp; omega
  have HREC := hideIt hrec
  have HC := hideIt hc
  have HDL := hideIt hdl
  have HX := hideIt hx
  have HY := hideIt hy
  have HT := hideIt hT
  have HN1 := hideIt (fun (W : World) => nodeMessage_any y d hy hdl W)
  have HC1 := hideIt (fun (W : World) (base : Nat) (v : Value) (h : W.ownsRow base 5 1 v (nodeIn y d).length ((nodeIn y d).map bv)) (h2 : Tab W 1) => cut_own h (by have := nodeIn_len y d hy hdl; omega) h2)
  obtain ⟨z, hz⟩ : ∃ z, z = nodeD y d := ⟨_, rfl⟩
  have HZL : Hid (z.length = 16) := by rw [hz]; exact cutD_len _
  rw [show cutD (nodeIn y d) = z from hz.symm] at HC1
  rw [← hz]
  generalize nodeIn y d = msg at *
  clear hz
  clear hd hc hdl hx hy hT hD hrec hke ho
  go_enter Tryd.func49, Tryd.ntmps49
  go_wp2_with fail
  rw [show ((w.alloc (.cells (old.map bv).toArray 30)).alloc (.cells #[Value.int .u8 0, Value.int .u8 0, Value.int .u8 0, Value.int .u8 0, Value.int .u8 0, Value.int .u8 0, Value.int .u8 0, Value.int .u8 0, Value.int .u8 0, Value.int .u8 0, Value.int .u8 0, Value.int .u8 0, Value.int .u8 0, Value.int .u8 0, Value.int .u8 0, Value.int .u8 0] 30)).alloc (.cells #[Value.int .u8 0, Value.int .u8 0, Value.int .u8 0, Value.int .u8 0, Value.int .u8 0, Value.int .u8 0, Value.int .u8 0, Value.int .u8 0, Value.int .u8 0, Value.int .u8 0, Value.int .u8 0, Value.int .u8 0, Value.int .u8 0, Value.int .u8 0, Value.int .u8 0, Value.int .u8 0] 30) = w0 from HW0.out.symm]
  refine loads_begin [(8, fun W' => Has16 W' ⟨b, off + p * 16, none⟩ d)] (by kernel_rfl) ?_
  refine wpAnyL_move (oi := ⟨some 48, _, _, _, _, _⟩) 0 ?_ rfl (by kernel_rfl) (by kernel_rfl) (by kernel_rfl) (by kernel_rfl) (fun _ _ _ h => h) (by kernel_rfl) ?_ (Hooks.add HC.out (Hooks.nil _ _)) ?_
  rotate_left
  · intro W'; go_simp; first | done | with_reducible rfl
  try simp only [Act.put]
  try simp only [List.setIfInBounds_toArray]
  try simp only [List.set_cons_succ]
  try simp only [List.set_cons_zero]
  refine wpAnyL_move (oi := ⟨some 49, _, _, _, _, _⟩) 1 ?_ rfl (by kernel_rfl) (by kernel_rfl) (by kernel_rfl) (by kernel_rfl) (fun _ _ _ h => h) (by kernel_rfl) ?_ (Hooks.add HC.out (Hooks.nil _ _)) ?_
  rotate_left
  · intro W'; go_simp; first | done | with_reducible rfl
  try simp only [Act.put]
  try simp only [List.setIfInBounds_toArray]
  try simp only [List.set_cons_succ]
  try simp only [List.set_cons_zero]
  refine wpAnyL_move (oi := ⟨some 50, _, _, _, _, _⟩) 2 ?_ rfl (by kernel_rfl) (by kernel_rfl) (by kernel_rfl) (by kernel_rfl) (fun _ _ _ h => h) (by kernel_rfl) ?_ (Hooks.add HC.out (Hooks.nil _ _)) ?_
  rotate_left
  · intro W'; go_simp; first | done | with_reducible rfl
  try simp only [Act.put]
  try simp only [List.setIfInBounds_toArray]
  try simp only [List.set_cons_succ]
  try simp only [List.set_cons_zero]
  refine wpAnyL_take (oi := ⟨some 51, _, _, _, _, _⟩) 3 8 (.agg (d.map bv).toArray) _ rfl (by kernel_rfl) (by kernel_rfl) (by kernel_rfl) (by kernel_rfl) (by kernel_rfl) (by kernel_rfl) (.head _) (fun _ _ _ h => h) (by kernel_rfl) (fun W' hW' => exec_load_mid rfl rfl (range16 (hW')) (.array 16 5) (by kernel_rfl) rfl (isize16 _ HDL.out)) (Hooks.add HC.out (Hooks.nil _ _)) ?_
  try simp only [Act.put]
  try simp only [List.setIfInBounds_toArray]
  try simp only [List.set_cons_succ]
  try simp only [List.set_cons_zero]
  refine wpAnyL_move (oi := ⟨some 52, _, _, _, _, _⟩) 4 ?_ rfl (by kernel_rfl) (by kernel_rfl) (by kernel_rfl) (by kernel_rfl) (fun _ _ _ h => h) (by kernel_rfl) ?_ (Hooks.add HC.out (Hooks.nil _ _)) ?_
  rotate_left
  · intro W'; go_simp; first | done | with_reducible rfl
  try simp only [Act.put]
  try simp only [List.setIfInBounds_toArray]
  try simp only [List.set_cons_succ]
  try simp only [List.set_cons_zero]
  refine wpAnyL_move (oi := ⟨some 53, _, _, _, _, _⟩) 5 ?_ rfl (by kernel_rfl) (by kernel_rfl) (by kernel_rfl) (by kernel_rfl) (fun _ _ _ h => h) (by kernel_rfl) ?_ (Hooks.add HC.out (Hooks.nil _ _)) ?_
  rotate_left
  · intro W'; go_simp; first | done | with_reducible rfl
  try simp only [Act.put]
  try simp only [List.setIfInBounds_toArray]
  try simp only [List.set_cons_succ]
  try simp only [List.set_cons_zero]
  refine wpAnyL_move (oi := ⟨some 54, _, _, _, _, _⟩) 6 ?_ rfl (by kernel_rfl) (by kernel_rfl) (by kernel_rfl) (by kernel_rfl) (fun _ _ _ h => h) (by kernel_rfl) ?_ (Hooks.add HC.out (Hooks.nil _ _)) ?_
  rotate_left
  · intro W'; go_simp; first | done | with_reducible rfl
  try simp only [Act.put]
  try simp only [List.setIfInBounds_toArray]
  try simp only [List.set_cons_succ]
  try simp only [List.set_cons_zero]
  refine wpAnyL_one 7 (by kernel_rfl) rfl (fun K hK => ?_)
  go_wp2_with fail
  refine hK _ _ (Hooks.add (HC.out.below (B := w0.heap.size) (by have := HP0.out.y.lt; omega) ((Below.refl _ _).drew.alloc (Nat.le_refl _) _)) (Hooks.nil _ _)) ?_
  clear hK K
  refine loads_tail 8 (by kernel_rfl) (by kernel_rfl) (by kernel_rfl) (by kernel_rfl) ?_
  simp only [List.drop_succ_cons, List.drop_zero]
  go_wp2_with (first
    | ((with_reducible refine at_store ?_); refine wpList_put rfl 30 (.tmp 14) (.tmp 51) rfl w0.drew.heap.size (d.map bv) _ _ rfl rfl (Blk.new w0.drew 30 (zeroD.map bv)) (by rw [List.length_map, HDL.out]; kernel_rfl) (by rw [List.length_map, List.length_map, HDL.out]; rfl) (bv_one _) ?_; intro w1 ht hb; have HE1 := hideIt hb; have HO1 := hideIt (ht.blk ((show Blk w0.drew _ _ _ from HP0.out.old).alloc (.cells (zeroD.map bv).toArray 30)) (by have := HP0.out.old.lt; exact Nat.ne_of_lt this)); have HX1 := hideIt (ht.blk ((show Blk w0.drew _ _ _ from HP0.out.x).alloc (.cells (zeroD.map bv).toArray 30)) (by have := HP0.out.x.lt; exact Nat.ne_of_lt this)); have HY1 := hideIt (ht.blk ((show Blk w0.drew _ _ _ from HP0.out.y).alloc (.cells (zeroD.map bv).toArray 30)) (by have := HP0.out.y.lt; exact Nat.ne_of_lt this)); have HB1 := hideIt (ht.below (HP0.out.bel.drew.alloc (by have := HP0.out.bel.size; exact this) (.cells (zeroD.map bv).toArray 30)) (by have := HP0.out.bel.size; exact this)); clear ht hb)
    | (go_at_call 44; refine (HSP.out _).mono ?_; rintro e w' ⟨rfl, rfl⟩)
    | ((with_reducible refine at_load ?_); refine wpList_get rfl 30 (.tmp 5) rfl w.heap.size (old.map bv) 30 (.array 16 5) rfl HO1.out (by kernel_rfl) rfl (isize16 _ HO.out) ?_)
    | (go_at_call 49; refine (HREC.out _ HB1.out).mono ?_; rintro e w2 ⟨rfl, hb⟩; have HB2 := hideIt (HB1.out.trans (hb.mono HB1.out.size)); have HE2 := hideIt (HE1.out.kept hb HE1.out.lt); have HX2 := hideIt (HX1.out.kept hb HX1.out.lt); have HY2 := hideIt (HY1.out.kept hb HY1.out.lt); clear hb)
    | ((with_reducible refine at_store ?_); refine wpList_put rfl 30 (.tmp 10) (.tmp 67) rfl (w.heap.size + 1) (x.map bv) _ _ rfl rfl HX2.out (by rw [List.length_map, HX.out]; kernel_rfl) (by rw [List.length_map, List.length_map, HX.out]; rfl) (bv_one _) ?_; intro w3 ht hb; have HX3 := hideIt hb; have HY3 := hideIt (ht.blk HY2.out (by omega)); have HE3 := hideIt (ht.blk HE2.out (by have := HP0.out.x.lt; exact (Nat.ne_of_lt this).symm)); have HB3 := hideIt (ht.below HB2.out (by omega)); clear ht hb)
    | ((with_reducible refine at_store ?_); refine wpList_put rfl 30 (.tmp 11) (.tmp 68) rfl (w.heap.size + 1 + 1) (y.map bv) _ _ rfl rfl HY3.out (by rw [List.length_map, HY.out]; kernel_rfl) (by rw [List.length_map, List.length_map, HY.out]; rfl) (bv_one _) ?_; intro w4 ht hb; have HY4 := hideIt hb; have HX4 := hideIt (ht.blk HX3.out (by omega)); have HE4 := hideIt (ht.blk HE3.out (by have := HP0.out.y.lt; exact (Nat.ne_of_lt this).symm)); have HB4 := hideIt (ht.below HB3.out (by omega)); clear ht hb))
  refine loads_begin [(6, fun W' => Blk W' (w.heap.size + 1) 30 (x.map bv)), (3, fun W' => Blk W' (w.heap.size + 1 + 1) 30 (y.map bv) ∧ Blk W' w0.drew.heap.size 30 (d.map bv))] (by kernel_rfl) ?_
  refine wpAnyL_take (oi := ⟨some 70, _, _, _, _, _⟩) 0 6 (.agg (x.map bv).toArray) _ rfl (by kernel_rfl) (by kernel_rfl) (by kernel_rfl) (by kernel_rfl) (by kernel_rfl) (by kernel_rfl) (.head _) (fun _ _ _ h => h) (by kernel_rfl) (fun W' hW' => exec_load_blk rfl rfl (hW') (.array 16 5) (by kernel_rfl) rfl (isize16 _ HX.out)) (Hooks.add HX4.out (Hooks.add ⟨HY4.out, HE4.out⟩ (Hooks.nil _ _))) ?_
  try simp only [Act.put]
  try simp only [List.setIfInBounds_toArray]
  try simp only [List.set_cons_succ]
  try simp only [List.set_cons_zero]
  refine wpAnyL_take (oi := ⟨some 71, _, _, _, _, _⟩) 1 3 (.agg (y.map bv).toArray) _ rfl (by kernel_rfl) (by kernel_rfl) (by kernel_rfl) (by kernel_rfl) (by kernel_rfl) (by kernel_rfl) (.tail _ (.head _)) (fun _ _ _ h => h) (by kernel_rfl) (fun W' hW' => exec_load_blk rfl rfl (hW'.1) (.array 16 5) (by kernel_rfl) rfl (isize16 _ HY.out)) (Hooks.add HX4.out (Hooks.add ⟨HY4.out, HE4.out⟩ (Hooks.nil _ _))) ?_
  try simp only [Act.put]
  try simp only [List.setIfInBounds_toArray]
  try simp only [List.set_cons_succ]
  try simp only [List.set_cons_zero]
  refine wpAnyL_take (oi := ⟨some 72, _, _, _, _, _⟩) 2 3 (.agg (d.map bv).toArray) _ rfl (by kernel_rfl) (by kernel_rfl) (by kernel_rfl) (by kernel_rfl) (by kernel_rfl) (by kernel_rfl) (.tail _ (.head _)) (fun _ _ _ h => h) (by kernel_rfl) (fun W' hW' => exec_load_blk rfl rfl (hW'.2) (.array 16 5) (by kernel_rfl) rfl (isize16 _ HDL.out)) (Hooks.add HX4.out (Hooks.add ⟨HY4.out, HE4.out⟩ (Hooks.nil _ _))) ?_
  try simp only [Act.put]
  try simp only [List.setIfInBounds_toArray]
  try simp only [List.set_cons_succ]
  try simp only [List.set_cons_zero]
  refine wpAnyL_move (oi := ⟨some 75, _, _, _, _, _⟩) 5 ?_ rfl (by kernel_rfl) (by kernel_rfl) (by kernel_rfl) (by kernel_rfl) (fun _ _ _ h => h) (by kernel_rfl) ?_ (Hooks.add HX4.out (Hooks.add ⟨HY4.out, HE4.out⟩ (Hooks.nil _ _))) ?_
  rotate_left
  · intro W'; go_simp; first | done | with_reducible rfl
  try simp only [Act.put]
  try simp only [List.setIfInBounds_toArray]
  try simp only [List.set_cons_succ]
  try simp only [List.set_cons_zero]
  refine wpAnyL_one 3 (by kernel_rfl) rfl (fun K hK => ?_)
  go_wp2_with (go_at_call 45; refine (HN1.out _).mono ?_; rintro e w5 ⟨v5, rfl, hown, hb⟩; have HO5 := hideIt hown; have hb' : Below w4.heap.size w4 w5 := ((Below.refl _ _).drew).trans hb; have HX5 := hideIt (HX4.out.kept hb' HX4.out.lt); have HY5 := hideIt (HY4.out.kept hb' HY4.out.lt); have HB5 := hideIt (HB4.out.trans (hb'.mono HB4.out.size)); clear hown hb hb')
  refine hK _ _ (Hooks.add HX5.out (Hooks.skip (by kernel_rfl) (Hooks.nil _ _))) ?_
  clear hK K
  refine wpAnyL_one 4 (by kernel_rfl) rfl (fun K hK => ?_)
  go_wp2_with (go_at_call 35; refine (HC1.out _ _ _ HO5.out (HT.out.keep HB5.out)).mono ?_; rintro e w6 ⟨rfl, hb⟩; have HX6 := hideIt (HX5.out.kept hb HX5.out.lt); have HY6 := hideIt (HY5.out.kept hb HY5.out.lt); have HB6 := hideIt (HB5.out.trans (hb.mono HB5.out.size)); clear hb)
  refine hK _ _ (Hooks.add HX6.out (Hooks.skip (by kernel_rfl) (Hooks.nil _ _))) ?_
  clear hK K
  refine loads_tail 6 (by kernel_rfl) (by kernel_rfl) (by kernel_rfl) (by kernel_rfl) ?_
  simp only [List.drop_succ_cons, List.drop_zero]
  go_wp2_with (first
    | ((with_reducible refine at_store ?_); refine wpList_put rfl 30 (.tmp 10) (.tmp 70) rfl (w.heap.size + 1) (x.map bv) _ _ rfl rfl HX6.out (by rw [List.length_map, HX.out]; kernel_rfl) rfl (bv_one _) ?_; intro w7 ht hb; have HX7 := hideIt hb; have HY7 := hideIt (ht.blk HY6.out (by omega)); have HB7 := hideIt (ht.below HB6.out (by omega)); clear ht hb)
    | ((with_reducible refine at_store ?_); refine wpList_put rfl 30 (.tmp 11) (.tmp 74) rfl (w.heap.size + 1 + 1) (z.map bv) _ _ rfl rfl HY7.out (by rw [List.length_map, HZL.out]; kernel_rfl) (by rw [List.length_map, List.length_map, HZL.out, HY.out]) (bv_one _) ?_; intro w8 ht hb; have HY8 := hideIt hb; have HX8 := hideIt (ht.blk HX7.out (by omega)); have HB8 := hideIt (ht.below HB7.out (by omega)); clear ht hb))
  exact bodyPost_ret (results_pair rfl _ _ (w.heap.size + 1) (w.heap.size + 1 + 1) 30 (x.map bv) (z.map bv) (.array 16 5) rfl rfl HX8.out HY8.out (by kernel_rfl) rfl (isize16 _ HX.out) (isize16 _ HZL.out)) rfl ⟨rfl, HB8.out⟩

set_option maxHeartbeats 1600000 in
set_option maxRecDepth 100000 in
theorem pair_right (old : List UInt8) (ho : old.length = 16) (A : Option Addr) (B m n p c : Nat) (whole : Bool) (ds : List (List UInt8)) (w : World) (hn : n ≤ 9223372036854775807) (hm1 : 1 ≤ m) (hm : m < n) (hk : ¬ m ≤ splitK n) (hp : p + 1 ≤ 1000000000) (hD : Ds w B A ds.length ds) (hpd : p + 1 ≤ ds.length) (hpc : p + 1 ≤ c) (hB : B ≤ w.heap.size) (hT : Tab w 1)
    (x y : List UInt8) (hx : x.length = 16) (hy : y.length = 16) (ok : Bool)
    (hrec : ∀ W, Below w.heap.size w W → Calls Tryd.prog 49 #[dv old, .int .i64 ((m : Int) - (splitK n : Int)), .int .i64 ((n : Int) - (splitK n : Int)), .bool false, .slice A p c] W fun e w' => e = .returned (.tuple #[dv x, dv y, .bool ok]) ∧ Below W.heap.size W w') :
    Calls Tryd.prog 49 #[dv old, .int .i64 (m : Int), .int .i64 (n : Int), .bool whole, .slice A (p + 1) c] w fun e w' => e = .returned (.tuple #[dv (nodeD (ds.getD p []) x), dv (nodeD (ds.getD p []) y), .bool ok]) ∧ Below w.heap.size w w' := by
  obtain ⟨w0, hw0⟩ : ∃ W, W = ((w.alloc (.cells (old.map bv).toArray 30)).alloc (.cells (zeroD.map bv).toArray 30)).alloc (.cells (zeroD.map bv).toArray 30) := ⟨_, rfl⟩
  have HP0 : Hid (PairStart w w0 old) := by rw [hw0]; exact pair_start w old
  rw [zero_cells] at hw0
  have HW0 := hideIt hw0
  have HO := hideIt ho
  clear hw0
  obtain ⟨b, off, hAe, hbB, hc, hdl⟩ := ds_load (hD.below HP0.out.bel hB) (k := p) (by omega)
  have hhi := fun W => run_hi A (n := p + 1) (cap := c) (k := p) (by omega) W
  rw [hAe] at hhi hrec ⊢
  clear hAe
  obtain ⟨d, hd⟩ : ∃ d, d = ds.getD p [] := ⟨_, rfl⟩
  rw [← hd] at hc hdl ⊢
  have hne : ((m : Int) == (n : Int)) = false := by rw [beq_eq_false_iff_ne]; omega
  have HSP := hideIt (fun W => split_any n (by omega) hn W)
  have hsp := splitK_spec n (by omega)
  obtain ⟨k, hke⟩ : ∃ k, k = splitK n := ⟨_, rfl⟩
  rw [← hke] at HSP hk hrec hsp
  obtain ⟨s1, s2, s3⟩ := hsp
  have hpp : (p : Int) < (p : Int) + 1 := by omega
  have htest : decide ((m : Int) ≤ (k : Int)) = false := by simp; omega
  have HREC := hideIt hrec
  have HC := hideIt hc
  have HDL := hideIt hdl
  have HX := hideIt hx
  have HY := hideIt hy
  have HT := hideIt hT
  have HN1 := hideIt (fun (W : World) => nodeMessage_any d x hdl hx W)
  have HN2 := hideIt (fun (W : World) => nodeMessage_any d y hdl hy W)
  have HC1 := hideIt (fun (W : World) (base : Nat) (v : Value) (h : W.ownsRow base 5 1 v (nodeIn d x).length ((nodeIn d x).map bv)) (h2 : Tab W 1) => cut_own h (by have := nodeIn_len d x hdl hx; omega) h2)
  have HC2 := hideIt (fun (W : World) (base : Nat) (v : Value) (h : W.ownsRow base 5 1 v (nodeIn d y).length ((nodeIn d y).map bv)) (h2 : Tab W 1) => cut_own h (by have := nodeIn_len d y hdl hy; omega) h2)
  obtain ⟨z1, hz1⟩ : ∃ z, z = nodeD d x := ⟨_, rfl⟩
  obtain ⟨z, hz⟩ : ∃ z, z = nodeD d y := ⟨_, rfl⟩
  have HZL1 : Hid (z1.length = 16) := by rw [hz1]; exact cutD_len _
  have HZL : Hid (z.length = 16) := by rw [hz]; exact cutD_len _
  rw [show cutD (nodeIn d x) = z1 from hz1.symm] at HC1
  rw [show cutD (nodeIn d y) = z from hz.symm] at HC2
  rw [← hz1, ← hz]
  generalize nodeIn d x = msg1 at *
  generalize nodeIn d y = msg at *
  clear hz hz1
  clear hd hc hdl hx hy hT hD hrec hke ho
  go_enter Tryd.func49, Tryd.ntmps49
  go_wp2_with fail
  rw [show ((w.alloc (.cells (old.map bv).toArray 30)).alloc (.cells #[Value.int .u8 0, Value.int .u8 0, Value.int .u8 0, Value.int .u8 0, Value.int .u8 0, Value.int .u8 0, Value.int .u8 0, Value.int .u8 0, Value.int .u8 0, Value.int .u8 0, Value.int .u8 0, Value.int .u8 0, Value.int .u8 0, Value.int .u8 0, Value.int .u8 0, Value.int .u8 0] 30)).alloc (.cells #[Value.int .u8 0, Value.int .u8 0, Value.int .u8 0, Value.int .u8 0, Value.int .u8 0, Value.int .u8 0, Value.int .u8 0, Value.int .u8 0, Value.int .u8 0, Value.int .u8 0, Value.int .u8 0, Value.int .u8 0, Value.int .u8 0, Value.int .u8 0, Value.int .u8 0, Value.int .u8 0] 30) = w0 from HW0.out.symm]
  refine loads_begin [(8, fun W' => Has16 W' ⟨b, off + p * 16, none⟩ d)] (by kernel_rfl) ?_
  refine wpAnyL_move (oi := ⟨some 48, _, _, _, _, _⟩) 0 ?_ rfl (by kernel_rfl) (by kernel_rfl) (by kernel_rfl) (by kernel_rfl) (fun _ _ _ h => h) (by kernel_rfl) ?_ (Hooks.add HC.out (Hooks.nil _ _)) ?_
  rotate_left
  · intro W'; go_simp; first | done | with_reducible rfl
  try simp only [Act.put]
  try simp only [List.setIfInBounds_toArray]
  try simp only [List.set_cons_succ]
  try simp only [List.set_cons_zero]
  refine wpAnyL_move (oi := ⟨some 49, _, _, _, _, _⟩) 1 ?_ rfl (by kernel_rfl) (by kernel_rfl) (by kernel_rfl) (by kernel_rfl) (fun _ _ _ h => h) (by kernel_rfl) ?_ (Hooks.add HC.out (Hooks.nil _ _)) ?_
  rotate_left
  · intro W'; go_simp; first | done | with_reducible rfl
  try simp only [Act.put]
  try simp only [List.setIfInBounds_toArray]
  try simp only [List.set_cons_succ]
  try simp only [List.set_cons_zero]
  refine wpAnyL_move (oi := ⟨some 50, _, _, _, _, _⟩) 2 ?_ rfl (by kernel_rfl) (by kernel_rfl) (by kernel_rfl) (by kernel_rfl) (fun _ _ _ h => h) (by kernel_rfl) ?_ (Hooks.add HC.out (Hooks.nil _ _)) ?_
  rotate_left
  · intro W'; go_simp; first | done | with_reducible rfl
  try simp only [Act.put]
  try simp only [List.setIfInBounds_toArray]
  try simp only [List.set_cons_succ]
  try simp only [List.set_cons_zero]
  refine wpAnyL_take (oi := ⟨some 51, _, _, _, _, _⟩) 3 8 (.agg (d.map bv).toArray) _ rfl (by kernel_rfl) (by kernel_rfl) (by kernel_rfl) (by kernel_rfl) (by kernel_rfl) (by kernel_rfl) (.head _) (fun _ _ _ h => h) (by kernel_rfl) (fun W' hW' => exec_load_mid rfl rfl (range16 (hW')) (.array 16 5) (by kernel_rfl) rfl (isize16 _ HDL.out)) (Hooks.add HC.out (Hooks.nil _ _)) ?_
  try simp only [Act.put]
  try simp only [List.setIfInBounds_toArray]
  try simp only [List.set_cons_succ]
  try simp only [List.set_cons_zero]
  refine wpAnyL_move (oi := ⟨some 52, _, _, _, _, _⟩) 4 ?_ rfl (by kernel_rfl) (by kernel_rfl) (by kernel_rfl) (by kernel_rfl) (fun _ _ _ h => h) (by kernel_rfl) ?_ (Hooks.add HC.out (Hooks.nil _ _)) ?_
  rotate_left
  · intro W'; go_simp; first | done | with_reducible rfl
  try simp only [Act.put]
  try simp only [List.setIfInBounds_toArray]
  try simp only [List.set_cons_succ]
  try simp only [List.set_cons_zero]
  refine wpAnyL_move (oi := ⟨some 53, _, _, _, _, _⟩) 5 ?_ rfl (by kernel_rfl) (by kernel_rfl) (by kernel_rfl) (by kernel_rfl) (fun _ _ _ h => h) (by kernel_rfl) ?_ (Hooks.add HC.out (Hooks.nil _ _)) ?_
  rotate_left
  · intro W'; go_simp; first | done | with_reducible rfl
  try simp only [Act.put]
  try simp only [List.setIfInBounds_toArray]
  try simp only [List.set_cons_succ]
  try simp only [List.set_cons_zero]
  refine wpAnyL_move (oi := ⟨some 54, _, _, _, _, _⟩) 6 ?_ rfl (by kernel_rfl) (by kernel_rfl) (by kernel_rfl) (by kernel_rfl) (fun _ _ _ h => h) (by kernel_rfl) ?_ (Hooks.add HC.out (Hooks.nil _ _)) ?_
  rotate_left
  · intro W'; go_simp; first | done | with_reducible rfl
  try simp only [Act.put]
  try simp only [List.setIfInBounds_toArray]
  try simp only [List.set_cons_succ]
  try simp only [List.set_cons_zero]
  refine wpAnyL_one 7 (by kernel_rfl) rfl (fun K hK => ?_)
  go_wp2_with fail
  refine hK _ _ (Hooks.add (HC.out.below (B := w0.heap.size) (by have := HP0.out.y.lt; omega) ((Below.refl _ _).drew.alloc (Nat.le_refl _) _)) (Hooks.nil _ _)) ?_
  clear hK K
  refine loads_tail 8 (by kernel_rfl) (by kernel_rfl) (by kernel_rfl) (by kernel_rfl) ?_
  simp only [List.drop_succ_cons, List.drop_zero]
  go_wp2_with (first
    | ((with_reducible refine at_store ?_); refine wpList_put rfl 30 (.tmp 14) (.tmp 51) rfl w0.drew.heap.size (d.map bv) _ _ rfl rfl (Blk.new w0.drew 30 (zeroD.map bv)) (by rw [List.length_map, HDL.out]; kernel_rfl) (by rw [List.length_map, List.length_map, HDL.out]; rfl) (bv_one _) ?_; intro w1 ht hb; have HE1 := hideIt hb; have HO1 := hideIt (ht.blk ((show Blk w0.drew _ _ _ from HP0.out.old).alloc (.cells (zeroD.map bv).toArray 30)) (by have := HP0.out.old.lt; exact Nat.ne_of_lt this)); have HX1 := hideIt (ht.blk ((show Blk w0.drew _ _ _ from HP0.out.x).alloc (.cells (zeroD.map bv).toArray 30)) (by have := HP0.out.x.lt; exact Nat.ne_of_lt this)); have HY1 := hideIt (ht.blk ((show Blk w0.drew _ _ _ from HP0.out.y).alloc (.cells (zeroD.map bv).toArray 30)) (by have := HP0.out.y.lt; exact Nat.ne_of_lt this)); have HB1 := hideIt (ht.below (HP0.out.bel.drew.alloc (by have := HP0.out.bel.size; exact this) (.cells (zeroD.map bv).toArray 30)) (by have := HP0.out.bel.size; exact this)); clear ht hb)
    | (go_at_call 44; refine (HSP.out _).mono ?_; rintro e w' ⟨rfl, rfl⟩)
    | ((with_reducible refine at_load ?_); refine wpList_get rfl 30 (.tmp 5) rfl w.heap.size (old.map bv) 30 (.array 16 5) rfl HO1.out (by kernel_rfl) rfl (isize16 _ HO.out) ?_)
    | (go_at_call 49; refine (HREC.out _ HB1.out).mono ?_; rintro e w2 ⟨rfl, hb⟩; have HB2 := hideIt (HB1.out.trans (hb.mono HB1.out.size)); have HE2 := hideIt (HE1.out.kept hb HE1.out.lt); have HX2 := hideIt (HX1.out.kept hb HX1.out.lt); have HY2 := hideIt (HY1.out.kept hb HY1.out.lt); clear hb)
    | ((with_reducible refine at_store ?_); refine wpList_put rfl 30 (.tmp 10) (.tmp 86) rfl (w.heap.size + 1) (x.map bv) _ _ rfl rfl HX2.out (by rw [List.length_map, HX.out]; kernel_rfl) (by rw [List.length_map, List.length_map, HX.out]; rfl) (bv_one _) ?_; intro w3 ht hb; have HX3 := hideIt hb; have HY3 := hideIt (ht.blk HY2.out (by omega)); have HE3 := hideIt (ht.blk HE2.out (by have := HP0.out.x.lt; exact (Nat.ne_of_lt this).symm)); have HB3 := hideIt (ht.below HB2.out (by omega)); clear ht hb)
    | ((with_reducible refine at_store ?_); refine wpList_put rfl 30 (.tmp 11) (.tmp 87) rfl (w.heap.size + 1 + 1) (y.map bv) _ _ rfl rfl HY3.out (by rw [List.length_map, HY.out]; kernel_rfl) (by rw [List.length_map, List.length_map, HY.out]; rfl) (bv_one _) ?_; intro w4 ht hb; have HY4 := hideIt hb; have HX4 := hideIt (ht.blk HX3.out (by omega)); have HE4 := hideIt (ht.blk HE3.out (by have := HP0.out.y.lt; exact (Nat.ne_of_lt this).symm)); have HB4 := hideIt (ht.below HB3.out (by omega)); clear ht hb))
  refine loads_begin [(2, fun W' => Blk W' w0.drew.heap.size 30 (d.map bv) ∧ Blk W' (w.heap.size + 1) 30 (x.map bv)), (6, fun W' => Blk W' w0.drew.heap.size 30 (d.map bv) ∧ Blk W' (w.heap.size + 1 + 1) 30 (y.map bv))] (by kernel_rfl) ?_
  refine wpAnyL_take (oi := ⟨some 89, _, _, _, _, _⟩) 0 2 (.agg (d.map bv).toArray) _ rfl (by kernel_rfl) (by kernel_rfl) (by kernel_rfl) (by kernel_rfl) (by kernel_rfl) (by kernel_rfl) (.head _) (fun _ _ _ h => h) (by kernel_rfl) (fun W' hW' => exec_load_blk rfl rfl (hW'.1) (.array 16 5) (by kernel_rfl) rfl (isize16 _ HDL.out)) (Hooks.add ⟨HE4.out, HX4.out⟩ (Hooks.add ⟨HE4.out, HY4.out⟩ (Hooks.nil _ _))) ?_
  try simp only [Act.put]
  try simp only [List.setIfInBounds_toArray]
  try simp only [List.set_cons_succ]
  try simp only [List.set_cons_zero]
  refine wpAnyL_take (oi := ⟨some 90, _, _, _, _, _⟩) 1 2 (.agg (x.map bv).toArray) _ rfl (by kernel_rfl) (by kernel_rfl) (by kernel_rfl) (by kernel_rfl) (by kernel_rfl) (by kernel_rfl) (.head _) (fun _ _ _ h => h) (by kernel_rfl) (fun W' hW' => exec_load_blk rfl rfl (hW'.2) (.array 16 5) (by kernel_rfl) rfl (isize16 _ HX.out)) (Hooks.add ⟨HE4.out, HX4.out⟩ (Hooks.add ⟨HE4.out, HY4.out⟩ (Hooks.nil _ _))) ?_
  try simp only [Act.put]
  try simp only [List.setIfInBounds_toArray]
  try simp only [List.set_cons_succ]
  try simp only [List.set_cons_zero]
  refine wpAnyL_take (oi := ⟨some 93, _, _, _, _, _⟩) 4 6 (.agg (d.map bv).toArray) _ rfl (by kernel_rfl) (by kernel_rfl) (by kernel_rfl) (by kernel_rfl) (by kernel_rfl) (by kernel_rfl) (.tail _ (.head _)) (fun _ _ _ h => h) (by kernel_rfl) (fun W' hW' => exec_load_blk rfl rfl (hW'.1) (.array 16 5) (by kernel_rfl) rfl (isize16 _ HDL.out)) (Hooks.add ⟨HE4.out, HX4.out⟩ (Hooks.add ⟨HE4.out, HY4.out⟩ (Hooks.nil _ _))) ?_
  try simp only [Act.put]
  try simp only [List.setIfInBounds_toArray]
  try simp only [List.set_cons_succ]
  try simp only [List.set_cons_zero]
  refine wpAnyL_take (oi := ⟨some 94, _, _, _, _, _⟩) 5 6 (.agg (y.map bv).toArray) _ rfl (by kernel_rfl) (by kernel_rfl) (by kernel_rfl) (by kernel_rfl) (by kernel_rfl) (by kernel_rfl) (.tail _ (.head _)) (fun _ _ _ h => h) (by kernel_rfl) (fun W' hW' => exec_load_blk rfl rfl (hW'.2) (.array 16 5) (by kernel_rfl) rfl (isize16 _ HY.out)) (Hooks.add ⟨HE4.out, HX4.out⟩ (Hooks.add ⟨HE4.out, HY4.out⟩ (Hooks.nil _ _))) ?_
  try simp only [Act.put]
  try simp only [List.setIfInBounds_toArray]
  try simp only [List.set_cons_succ]
  try simp only [List.set_cons_zero]
  refine wpAnyL_move (oi := ⟨some 97, _, _, _, _, _⟩) 8 ?_ rfl (by kernel_rfl) (by kernel_rfl) (by kernel_rfl) (by kernel_rfl) (fun _ _ _ h => h) (by kernel_rfl) ?_ (Hooks.add ⟨HE4.out, HX4.out⟩ (Hooks.add ⟨HE4.out, HY4.out⟩ (Hooks.nil _ _))) ?_
  rotate_left
  · intro W'; go_simp; first | done | with_reducible rfl
  try simp only [Act.put]
  try simp only [List.setIfInBounds_toArray]
  try simp only [List.set_cons_succ]
  try simp only [List.set_cons_zero]
  refine wpAnyL_one 2 (by kernel_rfl) rfl (fun K hK => ?_)
  go_wp2_with (go_at_call 45; refine (HN1.out _).mono ?_; rintro e w5 ⟨v5, rfl, hown, hb⟩; have HO5 := hideIt hown; have hb' : Below w4.heap.size w4 w5 := ((Below.refl _ _).drew).trans hb; have HX5 := hideIt (HX4.out.kept hb' HX4.out.lt); have HY5 := hideIt (HY4.out.kept hb' HY4.out.lt); have HE5 := hideIt (HE4.out.kept hb' HE4.out.lt); have HB5 := hideIt (HB4.out.trans (hb'.mono HB4.out.size)); clear hown hb hb')
  refine hK _ _ (Hooks.skip (by kernel_rfl) (Hooks.add ⟨HE5.out, HY5.out⟩ (Hooks.nil _ _))) ?_
  clear hK K
  refine wpAnyL_one 3 (by kernel_rfl) rfl (fun K hK => ?_)
  go_wp2_with (go_at_call 35; refine (HC1.out _ _ _ HO5.out (HT.out.keep HB5.out)).mono ?_; rintro e w6 ⟨rfl, hb⟩; have HX6 := hideIt (HX5.out.kept hb HX5.out.lt); have HY6 := hideIt (HY5.out.kept hb HY5.out.lt); have HE6 := hideIt (HE5.out.kept hb HE5.out.lt); have HB6 := hideIt (HB5.out.trans (hb.mono HB5.out.size)); clear hb)
  refine hK _ _ (Hooks.skip (by kernel_rfl) (Hooks.add ⟨HE6.out, HY6.out⟩ (Hooks.nil _ _))) ?_
  clear hK K
  refine wpAnyL_one 6 (by kernel_rfl) rfl (fun K hK => ?_)
  go_wp2_with (go_at_call 45; refine (HN2.out _).mono ?_; rintro e w7 ⟨v7, rfl, hown, hb⟩; have HO7 := hideIt hown; have HX7 := hideIt (HX6.out.kept hb HX6.out.lt); have HY7 := hideIt (HY6.out.kept hb HY6.out.lt); have HB7 := hideIt (HB6.out.trans (hb.mono HB6.out.size)); clear hown hb)
  refine hK _ _ (Hooks.skip (by kernel_rfl) (Hooks.skip (by kernel_rfl) (Hooks.nil _ _))) ?_
  clear hK K
  refine wpAnyL_one 7 (by kernel_rfl) rfl (fun K hK => ?_)
  go_wp2_with (go_at_call 35; refine (HC2.out _ _ _ HO7.out (HT.out.keep HB7.out)).mono ?_; rintro e w8 ⟨rfl, hb⟩; have HX8 := hideIt (HX7.out.kept hb HX7.out.lt); have HY8 := hideIt (HY7.out.kept hb HY7.out.lt); have HB8 := hideIt (HB7.out.trans (hb.mono HB7.out.size)); clear hb)
  refine hK _ _ (Hooks.skip (by kernel_rfl) (Hooks.skip (by kernel_rfl) (Hooks.nil _ _))) ?_
  clear hK K
  refine loads_tail 9 (by kernel_rfl) (by kernel_rfl) (by kernel_rfl) (by kernel_rfl) ?_
  simp only [List.drop_succ_cons, List.drop_zero]
  go_wp2_with (first
    | ((with_reducible refine at_store ?_); refine wpList_put rfl 30 (.tmp 10) (.tmp 92) rfl (w.heap.size + 1) (z1.map bv) _ _ rfl rfl HX8.out (by rw [List.length_map, HZL1.out]; kernel_rfl) (by rw [List.length_map, List.length_map, HZL1.out, HX.out]) (bv_one _) ?_; intro w9 ht hb; have HX9 := hideIt hb; have HY9 := hideIt (ht.blk HY8.out (by omega)); have HB9 := hideIt (ht.below HB8.out (by omega)); clear ht hb)
    | ((with_reducible refine at_store ?_); refine wpList_put rfl 30 (.tmp 11) (.tmp 96) rfl (w.heap.size + 1 + 1) (z.map bv) _ _ rfl rfl HY9.out (by rw [List.length_map, HZL.out]; kernel_rfl) (by rw [List.length_map, List.length_map, HZL.out, HY.out]) (bv_one _) ?_; intro w10 ht hb; have HY10 := hideIt hb; have HX10 := hideIt (ht.blk HX9.out (by omega)); have HB10 := hideIt (ht.below HB9.out (by omega)); clear ht hb))
  exact bodyPost_ret (results_pair rfl _ _ (w.heap.size + 1) (w.heap.size + 1 + 1) 30 (z1.map bv) (z.map bv) (.array 16 5) rfl rfl HX10.out HY10.out (by kernel_rfl) rfl (isize16 _ HZL1.out) (isize16 _ HZL.out)) rfl ⟨rfl, HB10.out⟩

end Go.Proofs.YtefalanfkihcdaaDoor
