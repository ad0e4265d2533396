/-
  Proofs that do not fit, walked: digest.climb; and digest.Verify.
  Proofs of elements, checked: digest.Verify, walked.
-/
import Derived.Test.YtkjnimcapjjfdaaDoorClimb
import Derived.Test.YtkjnimcapjjfdaaDoorQuiet
namespace Go.Proofs.YtkjnimcapjjfdaaDoor
open Go.RowKit
set_option linter.unusedVariables false

theorem zero_cells : (zeroD.map bv).toArray = #[Value.int .u8 0, Value.int .u8 0, Value.int .u8 0, Value.int .u8 0, Value.int .u8 0, Value.int .u8 0, Value.int .u8 0, Value.int .u8 0, Value.int .u8 0, Value.int .u8 0, Value.int .u8 0, Value.int .u8 0, Value.int .u8 0, Value.int .u8 0, Value.int .u8 0, Value.int .u8 0] := by rw [zeroD_bv]; rfl

set_option maxHeartbeats 800000 in
set_option maxRecDepth 100000 in
theorem climb_out (n i : Int) (leaf : List UInt8) (hl : leaf.length = 16) (A : Option Addr) (p c : Nat) (fv : Value) (w : World) (hi : i < 0 ∨ n ≤ i) :
    Calls Tryd.prog 48 #[.int .i64 n, .int .i64 i, dv leaf, .slice A p c, fv] w fun e w' => e = .returned (.tuple #[dv zeroD, .bool false]) ∧ Below w.heap.size w w' := by
  have HL := hideIt hl
  have hz1 : (w.alloc (.cells (leaf.map bv).toArray 30)).heap.size = w.heap.size + 1 := by simp
  have HZ := hideIt hz1
  have HBL := hideIt ((hz1 ▸ Blk.new (w.alloc (.cells (leaf.map bv).toArray 30)) 30 (zeroD.map bv) : Blk ((w.alloc (.cells (leaf.map bv).toArray 30)).alloc (.cells (zeroD.map bv).toArray 30)) (w.heap.size + 1) 30 (zeroD.map bv)))
  have HBE := hideIt ((below_new w (.cells (leaf.map bv).toArray 30)).alloc (by rw [hz1]; omega) (.cells (zeroD.map bv).toArray 30))
  rw [zero_cells] at HBE
  have HBK : Hid (Blk ((w.alloc (.cells (leaf.map bv).toArray 30)).alloc (.cells #[Value.int .u8 0, Value.int .u8 0, Value.int .u8 0, Value.int .u8 0, Value.int .u8 0, Value.int .u8 0, Value.int .u8 0, Value.int .u8 0, Value.int .u8 0, Value.int .u8 0, Value.int .u8 0, Value.int .u8 0, Value.int .u8 0, Value.int .u8 0, Value.int .u8 0, Value.int .u8 0] 30)) (w.heap.size + 1) 30 (zeroD.map bv)) := by
    have := HBL.out; rw [zero_cells] at this; exact this
  clear hz1 hl HBL
  by_cases h0 : i < 0
  · clear hi
    go_enter Tryd.func48, Tryd.ntmps48
    go_wp2
    refine bodyPost_ret (results_two rfl _ _ (w.heap.size + 1) _ (zeroD.map bv) (.array 16 5) rfl HBK.out (by kernel_rfl) rfl (isize16 _ rfl)) rfl ⟨rfl, HBE.out⟩
  · have h1 : n ≤ i := by omega
    have h2 : decide (i < 0) = false := by simpa using h0
    have h3 : decide (n ≤ i) = true := by simpa using h1
    clear hi
    go_enter Tryd.func48, Tryd.ntmps48
    go_wp2
    refine bodyPost_ret (results_two rfl _ _ (w.heap.size + 1) _ (zeroD.map bv) (.array 16 5) rfl HBK.out (by kernel_rfl) rfl (isize16 _ rfl)) rfl ⟨rfl, HBE.out⟩

set_option maxHeartbeats 800000 in
set_option maxRecDepth 100000 in
theorem climb_len (n i : Nat) (leaf : List UInt8) (hl : leaf.length = 16) (A : Option Addr) (p c : Nat) (fv : Value) (w : World) (hn : n ≤ 9223372036854775807) (hi : i < n) (hpb : p ≤ 1000000000) (hp : (sibs 0 n i).length ≠ p) :
    Calls Tryd.prog 48 #[.int .i64 (n : Int), .int .i64 (i : Int), dv leaf, .slice A p c, fv] w fun e w' => e = .returned (.tuple #[dv zeroD, .bool false]) ∧ Below w.heap.size w w' := by
  have h2 : decide ((i : Int) < 0) = false := by simp
  have h3 : decide ((n : Int) ≤ (i : Int)) = false := by simp; omega
  have HW := hideIt (fun (W : World) (g0 : Nat) (hI : ClI W g0 g0 [] W) =>
    walkC_any (ClI W g0 g0) g0 n 100 hn (fun done lo hi b W' r1 r2 r3 r4 => climb1_any W g0 g0 100 (by omega) (Nat.le_refl _) done lo hi b W' r3 r4) 63 0 n i [] W (by omega) (by simp) (by omega) hi (Nat.le_refl _) hI)
  have hs63 := sibs_le 63 0 n i (by omega)
  have hne : (((sibs 0 n i).length : Int) != (p : Int)) = true := by simp; omega
  obtain ⟨q, hq⟩ : ∃ q, q = (sibs 0 n i).length := ⟨_, rfl⟩
  rw [← hq] at hne hs63
  have HQ := hideIt hq
  have HL := hideIt hl
  clear hp hq hl
  go_enter Tryd.func48, Tryd.ntmps48
  go_wp2_with fail
  have hz1 : (w.alloc (.cells (leaf.map bv).toArray 30)).heap.size = w.heap.size + 1 := by simp
  have hz2 : ((w.alloc (.cells (leaf.map bv).toArray 30)).alloc (.cells (List.replicate 16 (Value.int .u8 0)).toArray 30)).heap.size = w.heap.size + 1 + 1 := by simp
  have hb3 := hz2 ▸ Blk.new ((w.alloc (.cells (leaf.map bv).toArray 30)).alloc (.cells (List.replicate 16 (Value.int .u8 0)).toArray 30)) 91 [Value.slice none 0 0]
  refine (HW.out _ (w.heap.size + 1 + 1) ⟨Below.refl _ _, ?_, .slice none 0 0, hb3, ⟨rfl, .inl ⟨rfl, rfl⟩⟩⟩).mono ?_
  · exact Nat.le_of_lt hb3.lt
  rintro e w1 ⟨rfl, hC⟩
  have HB1 : Hid (Below w.heap.size w w1) := (((below_new w _).alloc (by rw [hz1]; omega) _).alloc (by rw [hz2]; omega) _).trans (hC.bel.mono (by omega))
  have hrs : Blk w1 (w.heap.size + 1) 30 (List.replicate 16 (Value.int .u8 0)) := ((hz1 ▸ Blk.new (w.alloc (.cells (leaf.map bv).toArray 30)) 30 (List.replicate 16 (Value.int .u8 0))).alloc _).kept hC.bel (by omega)
  rw [← zeroD_bv] at hrs
  have HRS := hideIt hrs
  obtain ⟨v, hbv, hown⟩ := hC.out
  rw [List.nil_append, ← HQ.out] at hown
  obtain ⟨Ab, cb, rfl, hcb1, hcb2⟩ := own_form hown
  have hlv : w1.cell? ⟨w.heap.size + 1 + 1, 0, none⟩ = some (.slice Ab q cb) := by rw [hbv.cell]; rfl
  have hsz1 : w.heap.size + 1 + 1 < w1.heap.size := hbv.lt
  clear hC hbv hown hz1 hz2 hb3 hrs
  go_wp2_with ((with_reducible refine at_store ?_); refine wpList_put rfl 30 (.tmp 10) (.tmp 33) rfl (w.heap.size + 1) (zeroD.map bv) _ _ rfl (by rw [zero_cells]; rfl) HRS.out (by kernel_rfl) rfl (bv_one _) ?_; intro w8 ht8 hb8; have HT8 := hideIt ht8; have HB8 := hideIt hb8; clear ht8 hb8)
  refine bodyPost_ret (results_two rfl _ _ (w.heap.size + 1) _ (zeroD.map bv) (.array 16 5) rfl HB8.out (by kernel_rfl) rfl (isize16 _ rfl)) rfl ⟨rfl, ?_⟩
  exact HT8.out.below HB1.out (by omega)
theorem climb_ok (n i : Nat) (leaf : List UInt8) (hl : leaf.length = 16) (A : Option Addr) (p c : Nat) (ds : List (List UInt8)) (w : World) (hD : Ds w w.heap.size A p ds) (hT : Tab w 1) (hn : n ≤ 9223372036854775807) (hi : i < n) (hp : (sibs 0 n i).length = p) :
    Calls Tryd.prog 48 #[.int .i64 (n : Int), .int .i64 (i : Int), dv leaf, .slice A p c, .func (.func 35) #[] #[]] w fun e w' =>
      e = .returned (.tuple #[dv (rootK (befD (sibs 0 n i)) ds leaf p), .bool true]) ∧ Below w.heap.size w w' :=
  (climb_cut (fun _ _ => True) w.heap.size [] (by simp) (by simp) (by simp) hT.1 (fun _ _ _ _ _ => trivial)
    (fun done x v base W h1 h2 h3 h4 h5 h6 => (cut_own h5 (by omega) h6).mono fun e w' ⟨q1, q2⟩ => ⟨q1, trivial, KeepT.of_below q2 h3⟩)
    n i leaf hl A p c ds w hD (Nat.le_refl _) hT hn hi hp trivial).mono fun e w' ⟨q1, _, q3⟩ => ⟨q1, q3.below⟩

/-- What Verify answers. -/
def verB (root : List UInt8) (n i : Int) (leaf : List UInt8) (ds : List (List UInt8)) : Bool :=
  decide (0 ≤ i ∧ i < n ∧ (sibs 0 n.toNat i.toNat).length = ds.length ∧ rootK (befD (sibs 0 n.toNat i.toNat)) ds leaf ds.length = root)

set_option maxHeartbeats 800000 in
set_option maxRecDepth 100000 in
theorem verify_of (root leaf : List UInt8) (hr : root.length = 16) (hl : leaf.length = 16) (n i : Int) (A : Option Addr) (p c : Nat) (w : World) (x : List UInt8) (hx : x.length = 16) (ok : Bool)
    (hC : ∀ W, Below w.heap.size w W → Calls Tryd.prog 48 #[.int .i64 n, .int .i64 i, dv leaf, .slice A p c, .func (.func 35) #[] #[]] W fun e w' => e = .returned (.tuple #[dv x, .bool ok]) ∧ Below W.heap.size W w') :
    Calls Tryd.prog 22 #[dv root, .int .i64 n, .int .i64 i, dv leaf, .slice A p c] w fun e w' => e = .returned (.bool (ok && decide (x = root))) ∧ Below w.heap.size w w' := by
  have HR := hideIt hr
  have HL := hideIt hl
  have HX := hideIt hx
  have HC := hideIt hC
  have hz1 : (w.alloc (.cells (root.map bv).toArray 30)).heap.size = w.heap.size + 1 := by simp
  have HB0 := hideIt ((below_new w (.cells (root.map bv).toArray 30)).alloc (by rw [hz1]; omega) (.cells (leaf.map bv).toArray 30))
  have HK0 := hideIt ((Blk.new w 30 (root.map bv)).alloc (.cells (leaf.map bv).toArray 30))
  have HK1 : Hid (Blk ((w.alloc (.cells (root.map bv).toArray 30)).alloc (.cells (leaf.map bv).toArray 30)) (w.heap.size + 1) 30 (leaf.map bv)) := hz1 ▸ Blk.new (w.alloc (.cells (root.map bv).toArray 30)) 30 (leaf.map bv)
  have heq := equal_digest x root hx hr
  clear hr hl hx hC hz1
  cases ok with
  | false =>
    go_enter Tryd.func22, Tryd.ntmps22
    go_wp2_with (first
      | ((with_reducible refine at_load ?_); refine wpList_get rfl 30 (.tmp 8) rfl (w.heap.size + 1) (leaf.map bv) 30 (.array 16 5) rfl HK1.out (by kernel_rfl) rfl (isize16 _ HL.out) ?_)
      | (go_at_call 48; refine (HC.out _ HB0.out).mono ?_; rintro e w1 ⟨rfl, hb1⟩; have HB1 := hideIt (HB0.out.trans (hb1.mono HB0.out.size)); clear hb1)
      | ((with_reducible refine at_store ?_); refine wpList_put rfl 30 (.tmp 11) (.tmp 19) rfl w1.heap.size (x.map bv) _ _ rfl rfl (Blk.new w1 30 (List.replicate 16 (Value.int .u8 0))) (by rw [List.length_map, HX.out]; kernel_rfl) (by rw [List.length_map, HX.out]; rfl) (bv_one _) ?_; intro w8 ht8 hb8; have HT8 := hideIt ht8; have HB8 := hideIt hb8; clear ht8 hb8))
    go_ret
    exact ⟨rfl, HT8.out.below (HB1.out.alloc HB1.out.size _) HB1.out.size⟩
  | true =>
    obtain ⟨q, hq⟩ : ∃ q, q = decide (x = root) := ⟨_, rfl⟩
    rw [← hq] at heq ⊢
    clear hq
    go_enter Tryd.func22, Tryd.ntmps22
    go_wp2_with (first
      | ((with_reducible refine at_load ?_); refine wpList_get rfl 30 (.tmp 8) rfl (w.heap.size + 1) (leaf.map bv) 30 (.array 16 5) rfl HK1.out (by kernel_rfl) rfl (isize16 _ HL.out) ?_)
      | (go_at_call 48; refine (HC.out _ HB0.out).mono ?_; rintro e w1 ⟨rfl, hb1⟩; have HB1 := hideIt (HB0.out.trans (hb1.mono HB0.out.size)); have HK01 := hideIt (HK0.out.kept hb1 HK0.out.lt); clear hb1)
      | ((with_reducible refine at_store ?_); refine wpList_put rfl 30 (.tmp 11) (.tmp 19) rfl w1.heap.size (x.map bv) _ _ rfl rfl (Blk.new w1 30 (List.replicate 16 (Value.int .u8 0))) (by rw [List.length_map, HX.out]; kernel_rfl) (by rw [List.length_map, HX.out]; rfl) (bv_one _) ?_; intro w8 ht8 hb8; have HT8 := hideIt ht8; have HB8 := hideIt hb8; have HK08 := hideIt (ht8.blk (HK01.out.alloc (.cells (List.replicate 16 (Value.int .u8 0)).toArray 30)) (by have := HK01.out.lt; omega)); clear ht8 hb8)
      | ((with_reducible refine at_load ?_); refine wpList_get_g (by kernel_rfl) 30 (.tmp 11) rfl w1.heap.size (x.map bv) 30 (.array 16 5) rfl HB8.out (by kernel_rfl) rfl (isize16 _ HX.out) ?_)
      | ((with_reducible refine at_load ?_); refine wpList_get_g (by kernel_rfl) 30 (.tmp 5) rfl w.heap.size (root.map bv) 30 (.array 16 5) rfl HK08.out (by kernel_rfl) rfl (isize16 _ HR.out) ?_))
    go_ret
    exact ⟨by simp, HT8.out.below (HB1.out.alloc HB1.out.size _) HB1.out.size⟩

theorem verify_any (root leaf : List UInt8) (hr : root.length = 16) (hl : leaf.length = 16) (n i : Int) (hn : n ≤ 9223372036854775807) (A : Option Addr) (p c : Nat) (ds : List (List UInt8)) (w : World) (hD : Ds w w.heap.size A p ds) (hT : Tab w 1) (hp : p ≤ 1000000000) :
    Calls Tryd.prog 22 #[dv root, .int .i64 n, .int .i64 i, dv leaf, .slice A p c] w fun e w' => e = .returned (.bool (verB root n i leaf ds)) ∧ Below w.heap.size w w' := by
  have hdl := hD.1
  by_cases h0 : 0 ≤ i ∧ i < n
  · obtain ⟨n', rfl⟩ : ∃ k : Nat, n = k := ⟨n.toNat, by omega⟩
    obtain ⟨i', rfl⟩ : ∃ k : Nat, i = k := ⟨i.toNat, by omega⟩
    by_cases hq : (sibs 0 n' i').length = p
    · refine (verify_of root leaf hr hl _ _ A p c w (rootK (befD (sibs 0 n' i')) ds leaf p) (rootK_len _ _ _ _) true (fun W hW => climb_ok n' i' leaf hl A p c ds W ((hD.below hW (Nat.le_refl _)).wide hW.size) (hT.keep hW) (by omega) (by omega) hq)).mono ?_
      rintro e w' ⟨rfl, hb⟩
      refine ⟨ret_b ?_, hb⟩
      unfold verB
      simp only [Int.toNat_natCast, Bool.true_and, hdl]
      rw [decide_eq_decide]
      exact ⟨fun h => ⟨h0.1, h0.2, hq, h⟩, fun h => h.2.2.2⟩
    · refine (verify_of root leaf hr hl _ _ A p c w zeroD rfl false (fun W hW => climb_len n' i' leaf hl A p c _ W (by omega) (by omega) hp hq)).mono ?_
      rintro e w' ⟨rfl, hb⟩
      refine ⟨ret_b ?_, hb⟩
      unfold verB
      simp only [Int.toNat_natCast, Bool.false_and, hdl]
      exact (decide_eq_false fun h => hq h.2.2.1).symm
  · refine (verify_of root leaf hr hl _ _ A p c w zeroD rfl false (fun W hW => climb_out n i leaf hl A p c _ W (by omega))).mono ?_
    rintro e w' ⟨rfl, hb⟩
    refine ⟨ret_b ?_, hb⟩
    unfold verB
    exact (decide_eq_false fun h => h0 ⟨h.1, h.2.1⟩).symm

end Go.Proofs.YtkjnimcapjjfdaaDoor
