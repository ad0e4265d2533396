/-
  Proofs that do not fit, walked: digest.climb; and digest.Verify.
-/
import Derived.Test.YtefalanfkihcdaaDoorClimb
namespace Go.Proofs.YtefalanfkihcdaaDoor
open Go.RowKit
set_option linter.unusedVariables false

theorem zero_cells : (zeroD.map bv).toArray = #[Value.int .u8 0, Value.int .u8 0, Value.int .u8 0, Value.int .u8 0, Value.int .u8 0, Value.int .u8 0, Value.int .u8 0, Value.int .u8 0, Value.int .u8 0, Value.int .u8 0, Value.int .u8 0, Value.int .u8 0, Value.int .u8 0, Value.int .u8 0, Value.int .u8 0, Value.int .u8 0] := by rw [zeroD_bv]; rfl

set_option maxHeartbeats 800000 in
set_option maxRecDepth 100000 in
theorem climb_out (n i : Int) (leaf : List UInt8) (hl : leaf.length = 16) (A : Option Addr) (p c : Nat) (fv : Value) (w : World) (hi : i < 0 ∨ n ≤ i) :
    Calls Tryd.prog 48 #[.int .i64 n, .int .i64 i, dv leaf, .slice A p c, fv] w fun e w' => e = .returned (.tuple #[dv zeroD, .bool false]) ∧ Below w.heap.size w w' := by
  have HL := hideIt hl
  have hz1 : (w.alloc (.cells (leaf.map bv).toArray 30)).heap.size = w.heap.size + 1 := by simp
  have HZ := hideIt hz1
  have HBL := hideIt ((hz1 ▸ Blk.new (w.alloc (.cells (leaf.map bv).toArray 30)) 30 (zeroD.map bv) : Blk ((w.alloc (.cells (leaf.map bv).toArray 30)).alloc (.cells (zeroD.map bv).toArray 30)) (w.heap.size + 1) 30 (zeroD.map bv)))
  have HBE := hideIt ((below_new w (.cells (leaf.map bv).toArray 30)).alloc (by rw [hz1]; omega) (.cells (zeroD.map bv).toArray 30))
  rw [zero_cells] at HBE
  have HBK : Hid (Blk ((w.alloc (.cells (leaf.map bv).toArray 30)).alloc (.cells #[Value.int .u8 0, Value.int .u8 0, Value.int .u8 0, Value.int .u8 0, Value.int .u8 0, Value.int .u8 0, Value.int .u8 0, Value.int .u8 0, Value.int .u8 0, Value.int .u8 0, Value.int .u8 0, Value.int .u8 0, Value.int .u8 0, Value.int .u8 0, Value.int .u8 0, Value.int .u8 0] 30)) (w.heap.size + 1) 30 (zeroD.map bv)) := by
    have := HBL.out; rw [zero_cells] at this; exact this
  clear hz1 hl HBL
  by_cases h0 : i < 0
  · clear hi
    go_enter Tryd.func48, Tryd.ntmps48
    go_wp2
    refine bodyPost_ret (results_two rfl _ _ (w.heap.size + 1) _ (zeroD.map bv) (.array 16 5) rfl HBK.out (by kernel_rfl) rfl (isize16 _ rfl)) rfl ⟨rfl, HBE.out⟩
  · have h1 : n ≤ i := by omega
    have h2 : decide (i < 0) = false := by simpa using h0
    have h3 : decide (n ≤ i) = true := by simpa using h1
    clear hi
    go_enter Tryd.func48, Tryd.ntmps48
    go_wp2
    refine bodyPost_ret (results_two rfl _ _ (w.heap.size + 1) _ (zeroD.map bv) (.array 16 5) rfl HBK.out (by kernel_rfl) rfl (isize16 _ rfl)) rfl ⟨rfl, HBE.out⟩

set_option maxHeartbeats 800000 in
set_option maxRecDepth 100000 in
theorem climb_len (n i : Nat) (leaf : List UInt8) (hl : leaf.length = 16) (A : Option Addr) (p c : Nat) (fv : Value) (w : World) (hn : n ≤ 9223372036854775807) (hi : i < n) (hpb : p ≤ 1000000000) (hp : (sibs 0 n i).length ≠ p) :
    Calls Tryd.prog 48 #[.int .i64 (n : Int), .int .i64 (i : Int), dv leaf, .slice A p c, fv] w fun e w' => e = .returned (.tuple #[dv zeroD, .bool false]) ∧ Below w.heap.size w w' := by
  have h2 : decide ((i : Int) < 0) = false := by simp
  have h3 : decide ((n : Int) ≤ (i : Int)) = false := by simp; omega
  have HW := hideIt (fun (W : World) (g0 : Nat) (hI : ClI W g0 g0 [] W) =>
    walkC_any (ClI W g0 g0) g0 n 100 hn (fun done lo hi b W' r1 r2 r3 r4 => climb1_any W g0 g0 100 (by omega) (Nat.le_refl _) done lo hi b W' r3 r4) 63 0 n i [] W (by omega) (by simp) (by omega) hi (Nat.le_refl _) hI)
  have hs63 := sibs_le 63 0 n i (by omega)
  have hne : (((sibs 0 n i).length : Int) != (p : Int)) = true := by simp; omega
  obtain ⟨q, hq⟩ : ∃ q, q = (sibs 0 n i).length := ⟨_, rfl⟩
  rw [← hq] at hne hs63
  have HQ := hideIt hq
  have HL := hideIt hl
  clear hp hq hl
  go_enter Tryd.func48, Tryd.ntmps48
  go_wp2_with fail
  have hz1 : (w.alloc (.cells (leaf.map bv).toArray 30)).heap.size = w.heap.size + 1 := by simp
  have hz2 : ((w.alloc (.cells (leaf.map bv).toArray 30)).alloc (.cells (List.replicate 16 (Value.int .u8 0)).toArray 30)).heap.size = w.heap.size + 1 + 1 := by simp
  have hb3 := hz2 ▸ Blk.new ((w.alloc (.cells (leaf.map bv).toArray 30)).alloc (.cells (List.replicate 16 (Value.int .u8 0)).toArray 30)) 91 [Value.slice none 0 0]
  refine (HW.out _ (w.heap.size + 1 + 1) ⟨Below.refl _ _, ?_, .slice none 0 0, hb3, ⟨rfl, .inl ⟨rfl, rfl⟩⟩⟩).mono ?_
  · exact Nat.le_of_lt hb3.lt
  rintro e w1 ⟨rfl, hC⟩
  have HB1 : Hid (Below w.heap.size w w1) := (((below_new w _).alloc (by rw [hz1]; omega) _).alloc (by rw [hz2]; omega) _).trans (hC.bel.mono (by omega))
  have hrs : Blk w1 (w.heap.size + 1) 30 (List.replicate 16 (Value.int .u8 0)) := ((hz1 ▸ Blk.new (w.alloc (.cells (leaf.map bv).toArray 30)) 30 (List.replicate 16 (Value.int .u8 0))).alloc _).kept hC.bel (by omega)
  rw [← zeroD_bv] at hrs
  have HRS := hideIt hrs
  obtain ⟨v, hbv, hown⟩ := hC.out
  rw [List.nil_append, ← HQ.out] at hown
  obtain ⟨Ab, cb, rfl, hcb1, hcb2⟩ := own_form hown
  have hlv : w1.cell? ⟨w.heap.size + 1 + 1, 0, none⟩ = some (.slice Ab q cb) := by rw [hbv.cell]; rfl
  have hsz1 : w.heap.size + 1 + 1 < w1.heap.size := hbv.lt
  clear hC hbv hown hz1 hz2 hb3 hrs
  go_wp2_with ((with_reducible refine at_store ?_); refine wpList_put rfl 30 (.tmp 10) (.tmp 33) rfl (w.heap.size + 1) (zeroD.map bv) _ _ rfl (by rw [zero_cells]; rfl) HRS.out (by kernel_rfl) rfl (bv_one _) ?_; intro w8 ht8 hb8; have HT8 := hideIt ht8; have HB8 := hideIt hb8; clear ht8 hb8)
  refine bodyPost_ret (results_two rfl _ _ (w.heap.size + 1) _ (zeroD.map bv) (.array 16 5) rfl HB8.out (by kernel_rfl) rfl (isize16 _ rfl)) rfl ⟨rfl, ?_⟩
  exact HT8.out.below HB1.out (by omega)
theorem climb_ok (n i : Nat) (leaf : List UInt8) (hl : leaf.length = 16) (A : Option Addr) (p c : Nat) (ds : List (List UInt8)) (w : World) (hD : Ds w w.heap.size A p ds) (hT : Tab w 1) (hn : n ≤ 9223372036854775807) (hi : i < n) (hp : (sibs 0 n i).length = p) :
    Calls Tryd.prog 48 #[.int .i64 (n : Int), .int .i64 (i : Int), dv leaf, .slice A p c, .func (.func 35) #[] #[]] w fun e w' =>
      e = .returned (.tuple #[dv (rootK (befD (sibs 0 n i)) ds leaf p), .bool true]) ∧ Below w.heap.size w w' :=
  (climb_cut (fun _ _ => True) w.heap.size [] (by simp) (by simp) (by simp) hT.1 (fun _ _ _ _ _ => trivial)
    (fun done x v base W h1 h2 h3 h4 h5 h6 => (cut_own h5 (by omega) h6).mono fun e w' ⟨q1, q2⟩ => ⟨q1, trivial, KeepT.of_below q2 h3⟩)
    n i leaf hl A p c ds w hD (Nat.le_refl _) hT hn hi hp trivial).mono fun e w' ⟨q1, _, q3⟩ => ⟨q1, q3.below⟩

theorem wpList_wanted {P : Program} {ops : Array Oper} {rest : List Oper} {o : Oper} {a : Act} {w : World} {Q : Exit → Act → World → Prop} (hw : Region.wanted o (yielded ops a.tmps) = true) (h : o.wp P a w (wpList P ops Q rest) Q) : wpList P ops Q (o :: rest) a w := by
  unfold wpList
  rw [if_pos hw]
  exact .inl h
/-- A load of a whole array, behind a guard that let it by. -/
theorem wpList_get_g {P : Program} {ops : Array Oper} {rest : List Oper} {o : Oper} {a : Act} {w : World} {Q : Exit → Act → World → Prop} (hw : Region.wanted o (yielded ops a.tmps) = true) (ty : TypeId) (x : Operand) (ho : o.op = .load ty x)
    (g : Nat) (cs : List Value) (t : TypeId) (d : TypeDesc) (hx : a.eval x = .pointer (some ⟨g, 0, none⟩)) (hg : Blk w g t cs) (hu : P.underlying ty = some d) (hd : d.isRow = true)
    (hi : (P.info? ty).map (·.size) = some cs.length) (h : wpList P ops Q rest (a.put o.dst (.agg cs.toArray)) w) : wpList P ops Q (o :: rest) a w := by
  refine wpList_wanted hw ?_
  unfold Oper.wp execOp
  simp only [ho, hx, Sem.run_bind, run_load_blk hg ty d hu hd hi, Result.andThen_ok, Sem.run_pure]
  exact h

end Go.Proofs.YtefalanfkihcdaaDoor
