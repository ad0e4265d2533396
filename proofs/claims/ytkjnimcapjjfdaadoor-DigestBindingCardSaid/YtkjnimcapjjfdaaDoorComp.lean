/-
  One block, walked: digest.compress.
-/
import Derived.Test.YtkjnimcapjjfdaaDoorSched
namespace Go.Proofs.YtkjnimcapjjfdaaDoor
open Go.RowKit
set_option linter.unusedVariables false
attribute [local go_sem] binOp_add_wv binOp_and_wv binOp_or_wv binOp_xor_wv binOp_shr_wv binOp_shl_wv unary_xor_wv run_convert_wv run_store_wv

/-- Block g holds the sixty-four constants. -/
def Tab (w : World) (g : Nat) : Prop := g < w.heap.size ∧ ∀ j, j < 64 → w.cell? ⟨g, j, none⟩ = some (wv (kk.getD j 0))
theorem Tab.below {w w' : World} {g B : Nat} (h : Tab w g) (hg : g < B) (hb : Below B w w') : Tab w' g :=
  ⟨Nat.lt_of_lt_of_le h.1 hb.size, fun j hj => (hb.cell (p := ⟨g, j, none⟩) hg).trans (h.2 j hj)⟩
theorem Tab.keep {w w' : World} {g : Nat} (h : Tab w g) (hb : Below w.heap.size w w') : Tab w' g := h.below h.1 hb
/-- A state as a value. -/
def stv (s : St) : Value := .agg #[wv s.a, wv s.b, wv s.c, wv s.d, wv s.e, wv s.f, wv s.g, wv s.h]

set_option maxHeartbeats 1000000 in
set_option maxRecDepth 100000 in
theorem comp_any (s : St) (A : Option Addr) (B c : Nat) (b : List UInt8) (w : World) (hx : Sl w B A 1 64 (b.map bv)) (hc : 64 ≤ c) (hB : B ≤ w.heap.size) (hT : Tab w 1) :
    Calls Tryd.prog 30 #[stv s, .slice A 64 c] w fun e w' => e = .returned (stv (comp s b)) ∧ Below w.heap.size w w' := by
  have HX := hideIt hx
  have HT := hideIt hT
  clear hx hT
  unfold stv
  obtain ⟨ws, hws⟩ : ∃ l, l = wl b 64 := ⟨_, rfl⟩
  obtain ⟨z, hz⟩ : ∃ z, z = comp s b := ⟨_, rfl⟩
  rw [← hz]
  have HZ := hideIt hz
  have hwl : ws.length = 64 := by rw [hws, wl_len]
  have HWL := hideIt hwl
  have HWS := hideIt hws
  clear hz hws hwl
  go_enter Tryd.func30, Tryd.ntmps30
  go_wp2_with fail
  refine (sched_any A B c b _ (HX.out.below (((Below.refl _ _).alloc hB _).alloc (by simp; omega) _)) hc (by simp; omega)).mono ?_
  rintro e w1 ⟨rfl, hb1⟩
  have hs2 : ∀ (X Y : Obj), ((w.alloc X).alloc Y).heap.size = w.heap.size + 2 := by intros; simp
  have HB1 : Hid (Below w.heap.size w w1) := (((Below.refl _ _).alloc (Nat.le_refl _) _).alloc (by simp) _).trans (hb1.mono (by rw [hs2]; omega))
  have HS1 : Hid (Blk w1 w.heap.size 61 [wv s.a, wv s.b, wv s.c, wv s.d, wv s.e, wv s.f, wv s.g, wv s.h]) := ((Blk.new w 61 _).alloc _).kept hb1 (by rw [hs2]; omega)
  have HR1 : Hid (Blk w1 (w.heap.size + 1) 61 (List.replicate 8 (.int .u32 0))) := by
    have := Blk.new (w.alloc (.cells #[wv s.a, wv s.b, wv s.c, wv s.d, wv s.e, wv s.f, wv s.g, wv s.h] 61)) 61 (List.replicate 8 (.int .u32 0))
    simp only [World.size_alloc] at this
    exact this.kept hb1 (by rw [hs2]; omega)
  have hz1 : w.heap.size + 2 ≤ w1.heap.size := by have := hb1.size; rw [hs2] at this; exact this
  rw [← HWS.out]
  obtain ⟨L, hL⟩ : ∃ L, L = ws.map wv := ⟨_, rfl⟩
  rw [← hL]
  have hlen : L.toArray.size = 64 := by rw [hL]; simp [HWL.out]
  have H1 : Hid (∀ u ∈ L, u.oneCell' = true) := by rw [hL]; exact wv_ones _
  have HLen := hideIt hlen
  have HL := hideIt hL
  clear hL hlen hb1 hs2
  go_wp2_with ((with_reducible refine at_store ?_); refine wpList_store_row rfl 66 (.tmp 5) (.tmp 18) rfl w1.heap.size L.toArray rfl rfl _ _ (Blk.new w1 66 (List.replicate 64 (.int .u32 0))) (by rw [HLen.out]; kernel_rfl) (by rw [HLen.out]; rfl) (all_oneCell_toArray H1.out) ?_)
  have HB2 : Hid (Below w.heap.size w ((w1.alloc (.cells (List.replicate 64 (.int .u32 0)).toArray 66)).setRow w1.heap.size L.toArray)) := below_row (HB1.out.alloc HB1.out.size _) HB1.out.size _
  have HS2 : Hid (Blk ((w1.alloc (.cells (List.replicate 64 (.int .u32 0)).toArray 66)).setRow w1.heap.size L.toArray) w.heap.size 61 [wv s.a, wv s.b, wv s.c, wv s.d, wv s.e, wv s.f, wv s.g, wv s.h]) := Blk.row_other (HS1.out.alloc _) (by omega) _
  have HR2 : Hid (Blk ((w1.alloc (.cells (List.replicate 64 (.int .u32 0)).toArray 66)).setRow w1.heap.size L.toArray) (w.heap.size + 1) 61 (List.replicate 8 (.int .u32 0))) := Blk.row_other (HR1.out.alloc _) (by omega) _
  have HW2 : Hid (Blk ((w1.alloc (.cells (List.replicate 64 (.int .u32 0)).toArray 66)).setRow w1.heap.size L.toArray) w1.heap.size 66 L) := Blk.row (Blk.new w1 66 (List.replicate 64 (.int .u32 0))) L
  obtain ⟨g2, hg2⟩ : ∃ g, g = w1.heap.size := ⟨_, rfl⟩
  have hz2 : w.heap.size + 2 ≤ g2 := by omega
  generalize hw2 : (w1.alloc (.cells (List.replicate 64 (.int .u32 0)).toArray 66)).setRow w1.heap.size L.toArray = w2 at *
  rw [show ((w1.alloc (.cells #[Value.int .u32 0, Value.int .u32 0, Value.int .u32 0, Value.int .u32 0, Value.int .u32 0, Value.int .u32 0, Value.int .u32 0, Value.int .u32 0, Value.int .u32 0, Value.int .u32 0, Value.int .u32 0, Value.int .u32 0, Value.int .u32 0, Value.int .u32 0, Value.int .u32 0, Value.int .u32 0, Value.int .u32 0, Value.int .u32 0, Value.int .u32 0, Value.int .u32 0, Value.int .u32 0, Value.int .u32 0, Value.int .u32 0, Value.int .u32 0, Value.int .u32 0, Value.int .u32 0, Value.int .u32 0, Value.int .u32 0, Value.int .u32 0, Value.int .u32 0, Value.int .u32 0, Value.int .u32 0, Value.int .u32 0, Value.int .u32 0, Value.int .u32 0, Value.int .u32 0, Value.int .u32 0, Value.int .u32 0, Value.int .u32 0, Value.int .u32 0, Value.int .u32 0, Value.int .u32 0, Value.int .u32 0, Value.int .u32 0, Value.int .u32 0, Value.int .u32 0, Value.int .u32 0, Value.int .u32 0, Value.int .u32 0, Value.int .u32 0, Value.int .u32 0, Value.int .u32 0, Value.int .u32 0, Value.int .u32 0, Value.int .u32 0, Value.int .u32 0, Value.int .u32 0, Value.int .u32 0, Value.int .u32 0, Value.int .u32 0, Value.int .u32 0, Value.int .u32 0, Value.int .u32 0, Value.int .u32 0] 66)).setRow w1.heap.size L.toArray) = w2 from hw2, ← hg2]
  rw [← hg2] at HW2
  clear hw2 hg2 HB1 HS1 HR1
  have hc0 : w2.cell? ⟨w.heap.size, 0, none⟩ = some (wv s.a) := by rw [HS2.out.cell]; rfl
  have hc1 : w2.cell? ⟨w.heap.size, 1, none⟩ = some (wv s.b) := by rw [HS2.out.cell]; rfl
  have hc2 : w2.cell? ⟨w.heap.size, 2, none⟩ = some (wv s.c) := by rw [HS2.out.cell]; rfl
  have hc3 : w2.cell? ⟨w.heap.size, 3, none⟩ = some (wv s.d) := by rw [HS2.out.cell]; rfl
  have hc4 : w2.cell? ⟨w.heap.size, 4, none⟩ = some (wv s.e) := by rw [HS2.out.cell]; rfl
  have hc5 : w2.cell? ⟨w.heap.size, 5, none⟩ = some (wv s.f) := by rw [HS2.out.cell]; rfl
  have hc6 : w2.cell? ⟨w.heap.size, 6, none⟩ = some (wv s.g) := by rw [HS2.out.cell]; rfl
  have hc7 : w2.cell? ⟨w.heap.size, 7, none⟩ = some (wv s.h) := by rw [HS2.out.cell]; rfl
  go_quiet (fail)
  generalize HW3 : w2.drewN nq = w3
  have HB3 : Hid (Below w.heap.size w w3) := by rw [← HW3]; exact below_drewN HB2.out nq
  have HS3 : Hid (Blk w3 w.heap.size 61 [wv s.a, wv s.b, wv s.c, wv s.d, wv s.e, wv s.f, wv s.g, wv s.h]) := by rw [← HW3]; exact HS2.out
  have HR3 : Hid (Blk w3 (w.heap.size + 1) 61 (List.replicate 8 (.int .u32 0))) := by rw [← HW3]; exact HR2.out
  have HW4 : Hid (Blk w3 g2 66 L) := by rw [← HW3]; exact HW2.out
  clear HB2 HS2 HR2 HW2 hc0 hc1 hc2 hc3 hc4 hc5 hc6 hc7 HW3
  go_wp2_with fail
  go_loopg [6, 7, 8, 9, 10, 11, 12, 13, 35] 64 (fun g s6 s7 s8 s9 s10 s11 s12 s13 s35 wr => ∃ (k : Nat) (r : St), g + k = 64 ∧ s35 = .int .i64 k ∧ s6 = wv r.a ∧ s7 = wv r.b ∧ s8 = wv r.c ∧ s9 = wv r.d ∧ s10 = wv r.e ∧ s11 = wv r.f ∧ s12 = wv r.g ∧ s13 = wv r.h ∧
    Aside (r = rnd ws s k ∧ Blk wr w.heap.size 61 [wv s.a, wv s.b, wv s.c, wv s.d, wv s.e, wv s.f, wv s.g, wv s.h] ∧ Blk wr (w.heap.size + 1) 61 (List.replicate 8 (.int .u32 0)) ∧ Blk wr g2 66 L ∧ Below w.heap.size w wr))
  case atStart => exact ⟨0, s, rfl, rfl, rfl, rfl, rfl, rfl, rfl, rfl, rfl, rfl, rfl, HS3, HR3, HW4, HB3⟩
  case round =>
    obtain ⟨k, r, hg, rfl, rfl, rfl, rfl, rfl, rfl, rfl, rfl, rfl, HA⟩ := hrel
    by_cases hk : k < 64
    · obtain ⟨kv, hkv⟩ : ∃ x, x = kk.getD k 0 := ⟨_, rfl⟩
      obtain ⟨x, hxv⟩ : ∃ x, x = ws.getD k 0 := ⟨_, rfl⟩
      have hct : wr.cell? ⟨1, k, none⟩ = some (wv kv) := by rw [hkv]; exact ((HT.out.keep HA.out.2.2.2.2).2 k hk)
      have hcx : wr.cell? ⟨g2, k, none⟩ = some (wv x) := by
        rw [HA.out.2.2.2.1.cell, HL.out, List.getElem?_map, hxv, List.getD_eq_getElem?_getD, List.getElem?_eq_getElem (by rw [HWL.out]; exact hk)]
        rfl
      have HN : Hid (r.step kv x = rnd ws s (k + 1)) := by rw [rnd_succ, hkv, hxv, HA.out.1]; exact rfl
      have hk64 : (k : Int) < 64 := by omega
      clear hkv hxv
      go_wp2_with fail
      go_quiet ((go_at_call 54; exact Reads.one (turn_q _ _ (by decide) (by decide))))
      go_wp2_with (go_at_call 54; refine (turn_s _ _ (by decide) (by decide) _).mono ?_; rintro e w' ⟨rfl, rfl⟩)
      go_roundg (gk - 1)
      case measure => omega
      case rel => exact ⟨k + 1, r.step kv x, by omega, by go_num, rfl, rfl, rfl, rfl, rfl, rfl, rfl, rfl, HN.out, HA.out.2.1, HA.out.2.2.1, HA.out.2.2.2.1, below_drewN HA.out.2.2.2.2 _⟩
    · have HZ2 : Hid (s.add r = z) := by
        have h1 := HA.out.1
        rw [show k = 64 by omega, HWS.out] at h1
        rw [HZ.out, h1]; rfl
      have hc0 : wr.cell? ⟨w.heap.size, 0, none⟩ = some (wv s.a) := by rw [HA.out.2.1.cell]; rfl
      have hc1 : wr.cell? ⟨w.heap.size, 1, none⟩ = some (wv s.b) := by rw [HA.out.2.1.cell]; rfl
      have hc2 : wr.cell? ⟨w.heap.size, 2, none⟩ = some (wv s.c) := by rw [HA.out.2.1.cell]; rfl
      have hc3 : wr.cell? ⟨w.heap.size, 3, none⟩ = some (wv s.d) := by rw [HA.out.2.1.cell]; rfl
      have hc4 : wr.cell? ⟨w.heap.size, 4, none⟩ = some (wv s.e) := by rw [HA.out.2.1.cell]; rfl
      have hc5 : wr.cell? ⟨w.heap.size, 5, none⟩ = some (wv s.f) := by rw [HA.out.2.1.cell]; rfl
      have hc6 : wr.cell? ⟨w.heap.size, 6, none⟩ = some (wv s.g) := by rw [HA.out.2.1.cell]; rfl
      have hc7 : wr.cell? ⟨w.heap.size, 7, none⟩ = some (wv s.h) := by rw [HA.out.2.1.cell]; rfl
      have HR9 := hideIt HA.out.2.2.1
      have HB9 := hideIt HA.out.2.2.2.2
      clear HA
      go_wp2_with (first
        | ((with_reducible refine at_build ?_); refine wpList_build_is rfl 61 _ rfl #[wv (s.a + r.a), wv (s.b + r.b), wv (s.c + r.c), wv (s.d + r.d), wv (s.e + r.e), wv (s.f + r.f), wv (s.g + r.g), wv (s.h + r.h)] (by kernel_rfl) ?_)
        | ((with_reducible refine at_store ?_); refine wpList_store_row rfl 61 (.tmp 4) (.tmp 130) rfl (w.heap.size + 1) ([wv (s.a + r.a), wv (s.b + r.b), wv (s.c + r.c), wv (s.d + r.d), wv (s.e + r.e), wv (s.f + r.f), wv (s.g + r.g), wv (s.h + r.h)]).toArray rfl rfl _ _ HR9.out (by kernel_rfl) rfl (all_oneCell_toArray (wv_ones (s.add r).list)) ?_))
      refine bodyPost_ret (v := stv (s.add r)) (results_cell_row rfl _ _ (w.heap.size + 1) 61 ([wv (s.a + r.a), wv (s.b + r.b), wv (s.c + r.c), wv (s.d + r.d), wv (s.e + r.e), wv (s.f + r.f), wv (s.g + r.g), wv (s.h + r.h)]).toArray (0, 0) (.array 8 60) rfl (Blk.row HR9.out _) (by kernel_rfl) rfl (by kernel_rfl)) rfl ⟨by rw [← HZ2.out]; rfl, below_row HB9.out (Nat.le_succ _) _⟩

end Go.Proofs.YtkjnimcapjjfdaaDoor
