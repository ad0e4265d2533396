/-
  The words of a block, walked: the reference's words.
-/
import Derived.Test.YtkjnimcapjjfdaaDoorSched
namespace Go.Proofs.YtkjnimcapjjfdaaDoor
open Go.RowKit
set_option linter.unusedVariables false
attribute [local go_sem] binOp_add_wv binOp_and_wv binOp_or_wv binOp_xor_wv binOp_shr_wv binOp_shl_wv unary_xor_wv run_convert_wv run_store_wv

/-- A byte of a block. -/
theorem one_byte {w : World} {B : Nat} {A : Option Addr} {b : List UInt8} (hx : Sl w B A 1 64 (b.map bv)) :
    ∃ g o, A = some ⟨g, o, none⟩ ∧ g < B ∧ ∀ j, j < 64 → w.cell? ⟨g, o + j, none⟩ = some (.int .u8 ((b.getD j 0).toNat : Int)) := by
  have hl : b.length = 64 := by have := hx.1; simpa using this
  obtain ⟨g, o, e, hg, hcell⟩ := hx.2 (by rw [List.length_map]; omega)
  refine ⟨g, o, e, hg, fun j hj => hcell j _ ?_⟩
  rw [List.getElem?_map, List.getElem?_eq_getElem (by omega), List.getD_eq_getElem?_getD, List.getElem?_eq_getElem (by omega)]
  rfl

set_option maxHeartbeats 800000 in
set_option maxRecDepth 100000 in
theorem refWords_any (A : Option Addr) (B c : Nat) (b : List UInt8) (w : World) (hx : Sl w B A 1 64 (b.map bv)) (hc : 64 ≤ c) (hB : B ≤ w.heap.size) :
    Calls Tryd.prog 33 #[.slice A 64 c] w fun e w' => e = .returned (.agg ((wl b 64).map wv).toArray) ∧ Below w.heap.size w w' := by
  have HX := hideIt hx
  clear hx
  obtain ⟨L, hL⟩ : ∃ L, L = (wl b 64).map wv := ⟨_, rfl⟩
  rw [← hL]
  have HL := hideIt hL
  clear hL
  go_enter Tryd.func33, Tryd.ntmps33
  go_wp2
  go_loopg [4] 16 (fun g s9 wr => ∃ k : Nat, g + k = 16 ∧ s9 = .int .i64 k ∧ Aside (Blk wr w.heap.size 66 (List.replicate 64 (.int .u32 0)) ∧ Blk wr (w.heap.size + 1) 66 (fillW (wl b k)) ∧ Below w.heap.size w wr))
  case atStart => exact ⟨0, rfl, rfl, Blk.alloc (Blk.new w _ _) _, by rw [show wl b 0 = [] from rfl, fillW_nil]; have := Blk.new (w.alloc (.cells (List.replicate 64 (.int .u32 0)).toArray 66)) 66 (List.replicate 64 (.int .u32 0)); simpa using this, ((Below.refl _ _).alloc (Nat.le_refl _) _).alloc (by simp) _⟩
  case round =>
    obtain ⟨k, hg, rfl, HA⟩ := hrel
    by_cases hk : k < 16
    · obtain ⟨gb, ob, rfl, hgb, hce⟩ := one_byte (HX.out.below (HA.out.2.2.mono hB))
      obtain ⟨b0, hb0⟩ : ∃ x, x = b.getD (4 * k) 0 := ⟨_, rfl⟩
      obtain ⟨b1, hb1⟩ : ∃ x, x = b.getD (4 * k + 1) 0 := ⟨_, rfl⟩
      obtain ⟨b2, hb2⟩ : ∃ x, x = b.getD (4 * k + 2) 0 := ⟨_, rfl⟩
      obtain ⟨b3, hb3⟩ : ∃ x, x = b.getD (4 * k + 3) 0 := ⟨_, rfl⟩
      have hc0 := hce (4 * k) (by omega)
      have hc1 := hce (4 * k + 1) (by omega)
      have hc2 := hce (4 * k + 2) (by omega)
      have hc3 := hce (4 * k + 3) (by omega)
      rw [← hb0] at hc0
      rw [← hb1] at hc1
      rw [← hb2] at hc2
      rw [← hb3] at hc3
      have HBs := hideIt (And.intro hb0 (And.intro hb1 (And.intro hb2 hb3)))
      clear hce hb0 hb1 hb2 hb3
      have hcw : wr.cell? ⟨w.heap.size + 1, k, none⟩ = some (wv 0) := by
        have := fillW_next (wl b k) (by rw [wl_len]; omega)
        rw [wl_len] at this
        rw [HA.out.2.1.cell, this]
      have hfw : wr.frozen? ⟨w.heap.size + 1, k, none⟩ = false := HA.out.2.1.free k
      have hcv := fun (x : UInt8) (W : World) => run_convert_bw (P := Tryd.prog) W 5 60 (by kernel_rfl) Tryd.underlying60 x
      go_wp2
      have hm0 : IntKind.i64.wrap (4 * (k : Int)) = 4 * (k : Int) := IntWalk.i64_in _ (by omega)
      have hz0 : (0 : Int) ≤ 4 * (k : Int) := by omega
      have hu0 : 4 * (k : Int) < 64 := by omega
      have hv0 : (4 * (k : Int)).toNat = 4 * k := by omega
      have hm1 : IntKind.i64.wrap (4 * (k : Int) + 1) = 4 * (k : Int) + 1 := IntWalk.i64_in _ (by omega)
      have hz1 : (0 : Int) ≤ 4 * (k : Int) + 1 := by omega
      have hu1 : 4 * (k : Int) + 1 < 64 := by omega
      have hv1 : (4 * (k : Int) + 1).toNat = 4 * k + 1 := by omega
      have hm2 : IntKind.i64.wrap (4 * (k : Int) + 2) = 4 * (k : Int) + 2 := IntWalk.i64_in _ (by omega)
      have hz2 : (0 : Int) ≤ 4 * (k : Int) + 2 := by omega
      have hu2 : 4 * (k : Int) + 2 < 64 := by omega
      have hv2 : (4 * (k : Int) + 2).toNat = 4 * k + 2 := by omega
      have hm3 : IntKind.i64.wrap (4 * (k : Int) + 3) = 4 * (k : Int) + 3 := IntWalk.i64_in _ (by omega)
      have hz3 : (0 : Int) ≤ 4 * (k : Int) + 3 := by omega
      have hu3 : 4 * (k : Int) + 3 < 64 := by omega
      have hv3 : (4 * (k : Int) + 3).toNat = 4 * k + 3 := by omega
      refine still_tail 34 (by kernel_rfl) (by kernel_rfl) ?_
      intro w2 hw2
      have HW2 := hideIt hw2
      have hd0 : w2.cell? ⟨gb, ob + 4 * k, none⟩ = some (.int .u8 (b0.toNat : Int)) := by rw [hw2]; exact hc0
      have hd1 : w2.cell? ⟨gb, ob + (4 * k + 1), none⟩ = some (.int .u8 (b1.toNat : Int)) := by rw [hw2]; exact hc1
      have hd2 : w2.cell? ⟨gb, ob + (4 * k + 2), none⟩ = some (.int .u8 (b2.toNat : Int)) := by rw [hw2]; exact hc2
      have hd3 : w2.cell? ⟨gb, ob + (4 * k + 3), none⟩ = some (.int .u8 (b3.toNat : Int)) := by rw [hw2]; exact hc3
      have hdw : w2.cell? ⟨w.heap.size + 1, k, none⟩ = some (wv 0) := by rw [hw2]; exact hcw
      have hdf : w2.frozen? ⟨w.heap.size + 1, k, none⟩ = false := by rw [hw2]; exact hfw
      clear hc0 hc1 hc2 hc3 hcw hfw hw2
      simp only [List.take_succ_cons, List.take_zero, List.drop_succ_cons, List.drop_zero]
      repeat still_step
      refine wpStill_nil ?_
      go_wp2_with ((with_reducible refine at_store ?_); refine wpList_store_one rfl 60 (.tmp 46) (.tmp 45) rfl ⟨w.heap.size + 1, k, none⟩ (wv (shl b0.toUInt32 24 ||| shl b1.toUInt32 16 ||| shl b2.toUInt32 8 ||| b3.toUInt32)) rfl rfl rfl (by kernel_rfl) (by rw [hdw]; rfl) hdf ?_)
      go_roundg (gk - 1)
      case measure => omega
      case rel =>
        refine ⟨k + 1, by omega, by go_num, ?_⟩
        obtain ⟨e0, e1, e2, e3⟩ := HBs.out
        have hw4 : shl b0.toUInt32 24 ||| shl b1.toUInt32 16 ||| shl b2.toUInt32 8 ||| b3.toUInt32 = readW b k := by rw [e0, e1, e2, e3]; rfl
        rw [hw4]
        have h1 := HA.out.2.1
        refine ⟨Blk.store_other (by rw [HW2.out]; exact HA.out.1) (by omega), ?_, by rw [HW2.out]; exact HA.out.2.2.drew.setCell (by simp) _⟩
        have h2 := Blk.store (show Blk w2 (w.heap.size + 1) 66 (fillW (wl b k)) by rw [HW2.out]; exact h1) k (wv (readW b k))
        have h3 := fillW_set (wl b k) (readW b k) (by rw [wl_len]; omega)
        rw [wl_len] at h3
        rw [h3] at h2
        rw [wl_succ, if_pos hk]
        exact h2
    · obtain rfl : k = 16 := by omega
      obtain ⟨w1, rfl⟩ : ∃ x, x = wr := ⟨wr, rfl⟩
      go_wp2
      go_loopg [5] 48 (fun g s6 wr => ∃ k : Nat, g + k = 64 ∧ 16 ≤ k ∧ s6 = .int .i64 k ∧ Aside (Blk wr w.heap.size 66 (List.replicate 64 (.int .u32 0)) ∧ Blk wr (w.heap.size + 1) 66 (fillW (wl b k)) ∧ Below w.heap.size w wr))
      case atStart => exact ⟨16, rfl, by omega, rfl, HA⟩
      case round =>
        obtain ⟨k, hg, hk16, rfl, HB⟩ := hrel
        by_cases hk : k < 64
        · obtain ⟨l, hl⟩ : ∃ l, l = wl b k := ⟨_, rfl⟩
          have hll : l.length = k := by rw [hl, wl_len]
          have hcell : ∀ j, j < k → wr.cell? ⟨w.heap.size + 1, j, none⟩ = some (wv (l.getD j 0)) := fun j hj => by
            rw [HB.out.2.1.cell, ← hl]; exact fillW_at l j (by omega)
          have hcw : wr.cell? ⟨w.heap.size + 1, k, none⟩ = some (wv 0) := by
            have := fillW_next (wl b k) (by rw [wl_len]; omega)
            rw [wl_len] at this
            rw [HB.out.2.1.cell, this]
          have hfw : wr.frozen? ⟨w.heap.size + 1, k, none⟩ = false := HB.out.2.1.free k
          have hn1 : IntKind.i64.wrap ((k : Int) - 15) = (k : Int) - 15 := IntWalk.i64_in _ (by omega)
          have hn2 : IntKind.i64.wrap ((k : Int) - 2) = (k : Int) - 2 := IntWalk.i64_in _ (by omega)
          have hn3 : IntKind.i64.wrap ((k : Int) - 16) = (k : Int) - 16 := IntWalk.i64_in _ (by omega)
          have hn4 : IntKind.i64.wrap ((k : Int) - 7) = (k : Int) - 7 := IntWalk.i64_in _ (by omega)
          have ht1 : ((k : Int) - 15).toNat = k - 15 := by omega
          have ht2 : ((k : Int) - 2).toNat = k - 2 := by omega
          have ht3 : ((k : Int) - 16).toNat = k - 16 := by omega
          have ht4 : ((k : Int) - 7).toNat = k - 7 := by omega
          have hp1 : (15 : Int) ≤ (k : Int) := by omega
          have hp2 : (2 : Int) ≤ (k : Int) := by omega
          have hp3 : (16 : Int) ≤ (k : Int) := by omega
          have hp4 : (7 : Int) ≤ (k : Int) := by omega
          have hp5 : (k : Int) - 15 < 64 := by omega
          have hp6 : (k : Int) - 2 < 64 := by omega
          have hp7 : (k : Int) - 16 < 64 := by omega
          have hp8 : (k : Int) - 7 < 64 := by omega
          obtain ⟨x15, hx15⟩ : ∃ x, x = l.getD (k - 15) 0 := ⟨_, rfl⟩
          obtain ⟨x2, hx2⟩ : ∃ x, x = l.getD (k - 2) 0 := ⟨_, rfl⟩
          obtain ⟨x16, hx16⟩ : ∃ x, x = l.getD (k - 16) 0 := ⟨_, rfl⟩
          obtain ⟨x7, hx7⟩ : ∃ x, x = l.getD (k - 7) 0 := ⟨_, rfl⟩
          have hc15 : wr.cell? ⟨w.heap.size + 1, k - 15, none⟩ = some (wv x15) := by rw [hx15]; exact hcell (k - 15) (by omega)
          have hc2 : wr.cell? ⟨w.heap.size + 1, k - 2, none⟩ = some (wv x2) := by rw [hx2]; exact hcell (k - 2) (by omega)
          have hc16 : wr.cell? ⟨w.heap.size + 1, k - 16, none⟩ = some (wv x16) := by rw [hx16]; exact hcell (k - 16) (by omega)
          have hc7 : wr.cell? ⟨w.heap.size + 1, k - 7, none⟩ = some (wv x7) := by rw [hx7]; exact hcell (k - 7) (by omega)
          have HN : Hid (x16 + (rot x15 7 ^^^ rot x15 18 ^^^ shr x15 3) + x7 + (rot x2 17 ^^^ rot x2 19 ^^^ shr x2 10) = nextW (wl b k) k) := by
            rw [hx15, hx2, hx16, hx7, hl]; exact rfl
          clear hcell hx15 hx2 hx16 hx7 hl hll
          go_wp2_with fail
          go_quiet ((go_at_call 34; exact Reads.one (refTurn_q _ _ (by decide) (by decide))))
          go_wp2_with fail
          go_quiet ((go_at_call 34; exact Reads.two (refTurn_q _ _ (by decide) (by decide))))
          go_wp2_with fail
          refine still_tail 14 (by kernel_rfl) (by kernel_rfl) ?_
          intro w2 hw2
          have HW2 : Hid (∃ m, w2 = wr.drewN m) := ⟨_, by rw [hw2, World.drewN_drewN, drewN_drew]⟩
          have hd16 : w2.cell? ⟨w.heap.size + 1, k - 16, none⟩ = some (wv x16) := by rw [hw2]; exact hc16
          have hd7 : w2.cell? ⟨w.heap.size + 1, k - 7, none⟩ = some (wv x7) := by rw [hw2]; exact hc7
          have hdw : w2.cell? ⟨w.heap.size + 1, k, none⟩ = some (wv 0) := by rw [hw2]; exact hcw
          have hdf : w2.frozen? ⟨w.heap.size + 1, k, none⟩ = false := by rw [hw2]; exact hfw
          clear hc15 hc2 hc16 hc7 hcw hfw hw2
          simp only [List.take_succ_cons, List.take_zero, List.drop_succ_cons, List.drop_zero]
          repeat still_step
          refine wpStill_nil ?_
          go_wp2_with ((with_reducible refine at_store ?_); refine wpList_store_one rfl 60 (.tmp 99) (.tmp 98) rfl ⟨w.heap.size + 1, k, none⟩ (wv (x16 + (rot x15 7 ^^^ rot x15 18 ^^^ shr x15 3) + x7 + (rot x2 17 ^^^ rot x2 19 ^^^ shr x2 10))) rfl rfl rfl (by kernel_rfl) (by rw [hdw]; rfl) hdf ?_)
          go_roundg (gk - 1)
          case measure => omega
          case rel =>
            refine ⟨k + 1, by omega, by omega, by go_num, ?_⟩
            obtain ⟨m, hm⟩ := HW2.out
            rw [HN.out]
            have h1 := HB.out.2.1
            refine ⟨Blk.store_other (by rw [hm]; exact HB.out.1) (by omega), ?_, by rw [hm]; exact (below_drewN HB.out.2.2 m).setCell (Nat.le_succ _) _⟩
            have h2 := Blk.store (show Blk w2 (w.heap.size + 1) 66 (fillW (wl b k)) by rw [hm]; exact h1) k (wv (nextW (wl b k) k))
            have h3 := fillW_set (wl b k) (nextW (wl b k) k) (by rw [wl_len]; omega)
            rw [wl_len] at h3
            rw [h3] at h2
            rw [wl_succ, if_neg (by omega)]
            exact h2
        · have hB1 : Blk wr (w.heap.size + 1) 66 L := by
            have := HB.out.2.1
            rw [show k = 64 by omega, fillW_full _ (wl_len _ _)] at this
            rw [HL.out]; exact this
          have hlen : L.toArray.size = 64 := by rw [HL.out]; simp [wl_len]
          have H1 : Hid (∀ u ∈ L, u.oneCell' = true) := by rw [HL.out]; exact wv_ones _
          have HB1 := hideIt hB1
          have HLen := hideIt hlen
          have HR := hideIt HB.out.1
          have HBl := hideIt HB.out.2.2
          clear hB1 hlen HB
          go_wp2_with (first
            | ((with_reducible refine at_load ?_); refine wpList_load_row rfl 66 (.tmp 3) rfl (w.heap.size + 1) rfl 66 L.toArray (0, 0) (.array 64 60) HB1.out (by kernel_rfl) rfl (by rw [HLen.out]; kernel_rfl) ?_)
            | ((with_reducible refine at_store ?_); refine wpList_store_row rfl 66 (.tmp 2) (.tmp 100) rfl w.heap.size L.toArray rfl rfl _ _ HR.out (by rw [HLen.out]; kernel_rfl) (by rw [HLen.out]; rfl) (all_oneCell_toArray H1.out) ?_))
          refine bodyPost_ret (v := .agg L.toArray) (results_cell_row rfl _ _ w.heap.size 66 L.toArray (0, 0) (.array 64 60) rfl (Blk.row HR.out L) (by kernel_rfl) rfl (by rw [HLen.out]; kernel_rfl)) rfl ⟨rfl, below_row HBl.out (Nat.le_refl _) _⟩

end Go.Proofs.YtkjnimcapjjfdaaDoor
