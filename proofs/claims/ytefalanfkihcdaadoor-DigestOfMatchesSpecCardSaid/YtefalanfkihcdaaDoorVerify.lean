/-
  Proofs of elements, checked: digest.Verify, walked.
-/
import Derived.Test.YtefalanfkihcdaaDoorClimb2
namespace Go.Proofs.YtefalanfkihcdaaDoor
open Go.RowKit
set_option linter.unusedVariables false

/-- What Verify answers. -/
def verB (root : List UInt8) (n i : Int) (leaf : List UInt8) (ds : List (List UInt8)) : Bool :=
  decide (0 ≤ i ∧ i < n ∧ (sibs 0 n.toNat i.toNat).length = ds.length ∧ rootK (befD (sibs 0 n.toNat i.toNat)) ds leaf ds.length = root)

set_option maxHeartbeats 800000 in
set_option maxRecDepth 100000 in
theorem verify_of (root leaf : List UInt8) (hr : root.length = 16) (hl : leaf.length = 16) (n i : Int) (A : Option Addr) (p c : Nat) (w : World) (x : List UInt8) (hx : x.length = 16) (ok : Bool)
    (hC : ∀ W, Below w.heap.size w W → Calls Tryd.prog 48 #[.int .i64 n, .int .i64 i, dv leaf, .slice A p c, .func (.func 35) #[] #[]] W fun e w' => e = .returned (.tuple #[dv x, .bool ok]) ∧ Below W.heap.size W w') :
    Calls Tryd.prog 22 #[dv root, .int .i64 n, .int .i64 i, dv leaf, .slice A p c] w fun e w' => e = .returned (.bool (ok && decide (x = root))) ∧ Below w.heap.size w w' := by
  have HR := hideIt hr
  have HL := hideIt hl
  have HX := hideIt hx
  have HC := hideIt hC
  have hz1 : (w.alloc (.cells (root.map bv).toArray 30)).heap.size = w.heap.size + 1 := by simp
  have HB0 := hideIt ((below_new w (.cells (root.map bv).toArray 30)).alloc (by rw [hz1]; omega) (.cells (leaf.map bv).toArray 30))
  have HK0 := hideIt ((Blk.new w 30 (root.map bv)).alloc (.cells (leaf.map bv).toArray 30))
  have HK1 : Hid (Blk ((w.alloc (.cells (root.map bv).toArray 30)).alloc (.cells (leaf.map bv).toArray 30)) (w.heap.size + 1) 30 (leaf.map bv)) := hz1 ▸ Blk.new (w.alloc (.cells (root.map bv).toArray 30)) 30 (leaf.map bv)
  have heq := equal_digest x root hx hr
  clear hr hl hx hC hz1
  cases ok with
  | false =>
    go_enter Tryd.func22, Tryd.ntmps22
    go_wp2_with (first
      | ((with_reducible refine at_load ?_); refine wpList_get rfl 30 (.tmp 8) rfl (w.heap.size + 1) (leaf.map bv) 30 (.array 16 5) rfl HK1.out (by kernel_rfl) rfl (isize16 _ HL.out) ?_)
      | (go_at_call 48; refine (HC.out _ HB0.out).mono ?_; rintro e w1 ⟨rfl, hb1⟩; have HB1 := hideIt (HB0.out.trans (hb1.mono HB0.out.size)); clear hb1)
      | ((with_reducible refine at_store ?_); refine wpList_put rfl 30 (.tmp 11) (.tmp 19) rfl w1.heap.size (x.map bv) _ _ rfl rfl (Blk.new w1 30 (List.replicate 16 (Value.int .u8 0))) (by rw [List.length_map, HX.out]; kernel_rfl) (by rw [List.length_map, HX.out]; rfl) (bv_one _) ?_; intro w8 ht8 hb8; have HT8 := hideIt ht8; have HB8 := hideIt hb8; clear ht8 hb8))
    go_ret
    exact ⟨rfl, HT8.out.below (HB1.out.alloc HB1.out.size _) HB1.out.size⟩
  | true =>
    obtain ⟨q, hq⟩ : ∃ q, q = decide (x = root) := ⟨_, rfl⟩
    rw [← hq] at heq ⊢
    clear hq
    go_enter Tryd.func22, Tryd.ntmps22
    go_wp2_with (first
      | ((with_reducible refine at_load ?_); refine wpList_get rfl 30 (.tmp 8) rfl (w.heap.size + 1) (leaf.map bv) 30 (.array 16 5) rfl HK1.out (by kernel_rfl) rfl (isize16 _ HL.out) ?_)
      | (go_at_call 48; refine (HC.out _ HB0.out).mono ?_; rintro e w1 ⟨rfl, hb1⟩; have HB1 := hideIt (HB0.out.trans (hb1.mono HB0.out.size)); have HK01 := hideIt (HK0.out.kept hb1 HK0.out.lt); clear hb1)
      | ((with_reducible refine at_store ?_); refine wpList_put rfl 30 (.tmp 11) (.tmp 19) rfl w1.heap.size (x.map bv) _ _ rfl rfl (Blk.new w1 30 (List.replicate 16 (Value.int .u8 0))) (by rw [List.length_map, HX.out]; kernel_rfl) (by rw [List.length_map, HX.out]; rfl) (bv_one _) ?_; intro w8 ht8 hb8; have HT8 := hideIt ht8; have HB8 := hideIt hb8; have HK08 := hideIt (ht8.blk (HK01.out.alloc (.cells (List.replicate 16 (Value.int .u8 0)).toArray 30)) (by have := HK01.out.lt; omega)); clear ht8 hb8)
      | ((with_reducible refine at_load ?_); refine wpList_get_g (by kernel_rfl) 30 (.tmp 11) rfl w1.heap.size (x.map bv) 30 (.array 16 5) rfl HB8.out (by kernel_rfl) rfl (isize16 _ HX.out) ?_)
      | ((with_reducible refine at_load ?_); refine wpList_get_g (by kernel_rfl) 30 (.tmp 5) rfl w.heap.size (root.map bv) 30 (.array 16 5) rfl HK08.out (by kernel_rfl) rfl (isize16 _ HR.out) ?_))
    go_ret
    exact ⟨by simp, HT8.out.below (HB1.out.alloc HB1.out.size _) HB1.out.size⟩

theorem verify_any (root leaf : List UInt8) (hr : root.length = 16) (hl : leaf.length = 16) (n i : Int) (hn : n ≤ 9223372036854775807) (A : Option Addr) (p c : Nat) (ds : List (List UInt8)) (w : World) (hD : Ds w w.heap.size A p ds) (hT : Tab w 1) (hp : p ≤ 1000000000) :
    Calls Tryd.prog 22 #[dv root, .int .i64 n, .int .i64 i, dv leaf, .slice A p c] w fun e w' => e = .returned (.bool (verB root n i leaf ds)) ∧ Below w.heap.size w w' := by
  have hdl := hD.1
  by_cases h0 : 0 ≤ i ∧ i < n
  · obtain ⟨n', rfl⟩ : ∃ k : Nat, n = k := ⟨n.toNat, by omega⟩
    obtain ⟨i', rfl⟩ : ∃ k : Nat, i = k := ⟨i.toNat, by omega⟩
    by_cases hq : (sibs 0 n' i').length = p
    · refine (verify_of root leaf hr hl _ _ A p c w (rootK (befD (sibs 0 n' i')) ds leaf p) (rootK_len _ _ _ _) true (fun W hW => climb_ok n' i' leaf hl A p c ds W ((hD.below hW (Nat.le_refl _)).wide hW.size) (hT.keep hW) (by omega) (by omega) hq)).mono ?_
      rintro e w' ⟨rfl, hb⟩
      refine ⟨ret_b ?_, hb⟩
      unfold verB
      simp only [Int.toNat_natCast, Bool.true_and, hdl]
      rw [decide_eq_decide]
      exact ⟨fun h => ⟨h0.1, h0.2, hq, h⟩, fun h => h.2.2.2⟩
    · refine (verify_of root leaf hr hl _ _ A p c w zeroD rfl false (fun W hW => climb_len n' i' leaf hl A p c _ W (by omega) (by omega) hp hq)).mono ?_
      rintro e w' ⟨rfl, hb⟩
      refine ⟨ret_b ?_, hb⟩
      unfold verB
      simp only [Int.toNat_natCast, Bool.false_and, hdl]
      exact (decide_eq_false fun h => hq h.2.2.1).symm
  · refine (verify_of root leaf hr hl _ _ A p c w zeroD rfl false (fun W hW => climb_out n i leaf hl A p c _ W (by omega))).mono ?_
    rintro e w' ⟨rfl, hb⟩
    refine ⟨ret_b ?_, hb⟩
    unfold verB
    exact (decide_eq_false fun h => h0 ⟨h.1, h.2.1⟩).symm

end Go.Proofs.YtefalanfkihcdaaDoor
