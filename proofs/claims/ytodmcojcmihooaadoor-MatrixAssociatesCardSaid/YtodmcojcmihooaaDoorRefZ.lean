/-
  The reference of layer 6, walked: Zero, times, Valid.
-/
import Derived.Test.YtodmcojcmihooaaDoorMatI
namespace Go.Proofs.YtodmcojcmihooaaDoor
open Go.RowKit
set_option linter.unusedVariables false

set_option maxHeartbeats 1000000 in
theorem rzeros_any (m : Int) (R C : Nat) (hR : R ≤ 40) (hC : C ≤ 80) (w : World) :
    Calls Tryd.prog 38 #[.int .i64 m, .int .i64 (R : Int), .int .i64 (C : Int)] w fun e w' => ∃ g, e = .returned (mtV m R C (.slice (some ⟨g, 0, none⟩) (R * C) (R * C))) ∧ w.heap.size ≤ g ∧ Blk w' g 3 ((nl (R * C) fun _ => 0).map iv) ∧ Below w.heap.size w w' := by
  have hrk : R * C ≤ 40 * 80 := Nat.mul_le_mul hR hC
  have hmul := nmul 3 R C (by omega)
  obtain ⟨n, hn⟩ : ∃ n, n = R * C := ⟨_, rfl⟩
  rw [← hn] at hrk hmul ⊢
  clear hn
  have HB0 := hideIt (Blk.new w 24 (mtC 0 0 0 (.slice none 0 0)))
  have HW0 := hideIt (below_new w (.cells (mtC 0 0 0 (.slice none 0 0)).toArray 24))
  go_enter Tryd.func38, Tryd.ntmps38
  go_wp2_with (first
    | ((with_reducible refine at_make ?_); refine wpList_zeros _ rfl (.tmp 12) (.tmp 12) rfl n rfl rfl (by omega) ?_; intro w2 HB2 HW2)
    | ((with_reducible refine at_store ?_); refine wpList_put rfl 24 (.tmp 6) (.tmp 14) rfl w.heap.size (mtC m R C (.slice (some ⟨w.heap.size + 1, 0, none⟩) n n)) (mtC 0 0 0 (.slice none 0 0)) 24 rfl rfl (HB0.out.kept HW2.out HB0.out.lt) isz4 rfl (mt_one _ _ _ rfl) ?_; intro w3 ht3 hb3; have HT3 := hideIt ht3; have HB3 := hideIt hb3; clear ht3 hb3))
  have h2 := HB2.out
  rw [World.size_alloc] at h2
  exact bodyPost_ret (ret_blk rfl HB3.out _ rfl Tryd.underlying24 rfl isz4) rfl ⟨w.heap.size + 1, rfl, by omega, HT3.out.blk h2 (by omega), HT3.out.below (HW0.out.trans (HW2.out.mono HW0.out.size)) (Nat.le_refl _)⟩


theorem rtimes_any (m x y : Nat) (hm : Fm m) (hx : x < 2 ^ m) (hy : y < 2 ^ m) (w : World) : Calls Tryd.prog 39 #[.int .i64 (m : Int), .int .i64 (x : Int), .int .i64 (y : Int)] w fun e w' => e = .returned (.int .i64 ((mul m x y : Nat) : Int)) ∧ w = w' := by
  have h := rmul_any (m : Int) (x : Int) (y : Int) w
  rw [mlR_is hm hx hy] at h
  have HMU := hideIt (show Calls Tryd.prog 50 #[.int .i64 (m : Int), .int .i64 (x : Int), .int .i64 (y : Int)] w fun e w' => e = .returned (.tuple #[.int .i64 ((mul m x y : Nat) : Int), .int .i64 0]) ∧ w = w' from h)
  clear h hm hx hy
  generalize mul m x y = z at *
  go_enter Tryd.func39, Tryd.ntmps39
  go_wp2_with (go_at_call 50; refine HMU.out.mono ?_; rintro e w1 ⟨rfl, rfl⟩)
  go_ret
  exact ⟨rfl, rfl⟩

end Go.Proofs.YtodmcojcmihooaaDoor
