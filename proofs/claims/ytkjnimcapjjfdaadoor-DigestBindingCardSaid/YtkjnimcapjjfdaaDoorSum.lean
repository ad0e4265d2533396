/-
  The hash of a message, walked: digest.Sum.
-/
import Derived.Test.YtkjnimcapjjfdaaDoorComp
import Derived.Test.YtkjnimcapjjfdaaDoorEnding
namespace Go.Proofs.YtkjnimcapjjfdaaDoor
open Go.RowKit
set_option linter.unusedVariables false
attribute [local go_sem] binOp_add_wv binOp_and_wv binOp_or_wv binOp_xor_wv binOp_shr_wv binOp_shl_wv unary_xor_wv run_convert_wv run_store_wv

/-- The words of a state as cells. -/
def stl (s : St) : List Value := [wv s.a, wv s.b, wv s.c, wv s.d, wv s.e, wv s.f, wv s.g, wv s.h]
theorem stv_is (s : St) : stv s = .agg (stl s).toArray := rfl
theorem stl_ones (s : St) : ∀ u ∈ stl s, u.oneCell' = true := wv_ones s.list

/-- A slice that is cut at its end. -/
theorem cut_to {P : Program} {T e : TypeId} (hT : P.underlying T = some (.slice e)) (hs : ∀ W, (sizeOf e).run P W = .ok 1 W) (A : Option Addr) {n cap k : Nat} (hk : k ≤ n) (hn : n ≤ cap) (W : World) :
    (Instr.sliceAt T (.slice A n cap) none (some (.int .i64 (k : Int))) none).run P W = .ok (.slice A k cap) W := by
  have hel : P.elem T = e := by simp [Program.elem, hT]
  rw [run_sliceAt_slice W T _ _ _ _ (by rw [hel]; exact hT), run_slice_h W T A n cap (by rw [hel]; exact hT) .i64 k (by omega) (by omega), hel, hs]
  cases A <;> simp [Result.andThen, sliced, Addr.add]

theorem index_st (s : St) (i : Nat) (h : i < 8) (W : World) : (Instr.index 61 (.agg (stl s).toArray) (.int .i64 (i : Int))).run Tryd.prog W = .ok (wv (s.list.getD i 0)) W := by
  have h' : i = 0 ∨ i = 1 ∨ i = 2 ∨ i = 3 ∨ i = 4 ∨ i = 5 ∨ i = 6 ∨ i = 7 := by omega
  rcases h' with rfl | rfl | rfl | rfl | rfl | rfl | rfl | rfl
  all_goals
    show Sem.run _ _ _ = _
    kernel_rfl
/-- The hash while it is written out. -/
def fillO (s : St) (i : Nat) : List UInt8 := (s.list.take i).flatMap w2b ++ List.replicate (32 - 4 * i) 0
theorem headO (s : St) (i : Nat) (h : i ≤ 8) : ((s.list.take i).flatMap w2b).length = 4 * i := by
  match i, h with
  | 0, _ => rfl
  | 1, _ => rfl
  | 2, _ => rfl
  | 3, _ => rfl
  | 4, _ => rfl
  | 5, _ => rfl
  | 6, _ => rfl
  | 7, _ => rfl
  | 8, _ => rfl
theorem stepO (s : St) (i : Nat) (h : i < 8) : (s.list.take (i + 1)).flatMap w2b = (s.list.take i).flatMap w2b ++ w2b (s.list.getD i 0) := by
  have hl : i < s.list.length := h
  rw [List.take_succ_eq_append_getElem hl, List.flatMap_append, List.flatMap_singleton, List.getD_eq_getElem?_getD, List.getElem?_eq_getElem hl]
  rfl
theorem fillO_at (s : St) (i j : Nat) (h : i < 8) (hj : j < 4) : (fillO s i)[4 * i + j]? = some 0 := by
  unfold fillO
  rw [List.getElem?_append_right (by rw [headO s i (by omega)]; omega), headO s i (by omega), List.getElem?_replicate, if_pos (by omega)]
theorem set4 (p t : List UInt8) (n : Nat) (hn : n = p.length) (a b c d : UInt8) : (((((p ++ 0 :: 0 :: 0 :: 0 :: t).set n a).set (n + 1) b).set (n + 2) c).set (n + 3) d) = p ++ (a :: b :: c :: d :: t) := by
  subst hn
  rw [List.set_append_right _ _ (by omega), Nat.sub_self, List.set_cons_zero, List.set_append_right _ _ (by omega), Nat.add_sub_cancel_left, List.set_cons_succ, List.set_cons_zero,
    List.set_append_right _ _ (by omega), Nat.add_sub_cancel_left, List.set_cons_succ, List.set_cons_succ, List.set_cons_zero,
    List.set_append_right _ _ (by omega), Nat.add_sub_cancel_left, List.set_cons_succ, List.set_cons_succ, List.set_cons_succ, List.set_cons_zero]
theorem fillO_step (s : St) (i : Nat) (h : i < 8) (v : UInt32) (hv : v = s.list.getD i 0) :
    (((((fillO s i).set (4 * i) (shr v 24).toUInt8).set (4 * i + 1) (shr v 16).toUInt8).set (4 * i + 2) (shr v 8).toUInt8).set (4 * i + 3) v.toUInt8) = fillO s (i + 1) := by
  unfold fillO
  rw [show 32 - 4 * i = (32 - 4 * (i + 1)) + 1 + 1 + 1 + 1 by omega, List.replicate_succ, List.replicate_succ, List.replicate_succ, List.replicate_succ, set4 _ _ _ (headO s i (by omega)).symm, stepO s i h, ← hv, List.append_assoc]
  rfl
theorem fillO_end (s : St) : fillO s 8 = outB s := by
  unfold fillO outB
  rw [show 32 - 4 * 8 = 0 from rfl, List.replicate_zero, List.append_nil]
  rfl

/-- A slice of a block that is cut at its beginning. -/
theorem cut_blk {P : Program} {T e : TypeId} (hT : P.underlying T = some (.slice e)) (hs : ∀ W, (sizeOf e).run P W = .ok 1 W) (A : Option Addr) (g o : Nat) {n cap k : Nat} (hA : A = some ⟨g, o, none⟩) (hk : k ≤ n) (hn : n ≤ cap) :
    ∃ A', (∀ W, (Instr.sliceAt T (.slice A n cap) (some (.int .i64 (k : Int))) none none).run P W = .ok (.slice A' (n - k) (cap - k)) W) ∧ (k < n → A' = some ⟨g, o + k, none⟩) := by
  have hel : P.elem T = e := by simp [Program.elem, hT]
  refine ⟨if cap = k then A else A.map (·.add (k * 1)), fun W => ?_, fun h => ?_⟩
  · rw [run_sliceAt_slice W T _ _ _ _ (by rw [hel]; exact hT), run_slice_l W T A n cap (by rw [hel]; exact hT) .i64 k (by omega) (by omega), hel, hs]
    simp only [Result.andThen, sliced, Int.toNat_natCast]
  · rw [if_neg (by omega), hA, Option.map_some, addr_add, Nat.mul_one]
theorem chunk_sl {w : World} {g o k : Nat} {e : TypeId} {E : List UInt8} (h : Blk w g e (E.map bv)) (hk : o + k ≤ E.length) : Sl w w.heap.size (some ⟨g, o, none⟩) 1 k (((E.drop o).take k).map bv) := by
  refine ⟨by rw [List.length_map, List.length_take, List.length_drop]; omega, fun _ => ⟨g, o, rfl, h.lt, fun j u hu => ?_⟩⟩
  rw [h.cell]
  rw [List.getElem?_map] at hu ⊢
  rw [List.getElem?_take] at hu
  split at hu
  · rwa [List.getElem?_drop] at hu
  · simp at hu

set_option maxHeartbeats 1000000 in
set_option maxRecDepth 100000 in
theorem sum_any (A : Option Addr) (B c : Nat) (l : List UInt8) (w : World) (hx : Sl w B A 1 l.length (l.map bv)) (hlc : l.length ≤ c) (hl : l.length ≤ 1000000000) (hB : B ≤ w.heap.size) (hT : Tab w 1) :
    Calls Tryd.prog 11 #[.slice A l.length c] w fun e w' => e = .returned (.agg ((sha l).map bv).toArray) ∧ Below w.heap.size w w' := by
  have HX := hideIt hx
  have HT := hideIt hT
  clear hx hT
  obtain ⟨z, hz⟩ : ∃ z, z = sha l := ⟨_, rfl⟩
  rw [← hz]
  have HZ := hideIt hz
  clear hz
  go_enter Tryd.func11, Tryd.ntmps11
  go_wp2
  go_loopg [4] l.length (fun g s4 wr => ∃ (q : Nat) (A' : Option Addr) (c' : Nat), g + 64 * q = l.length ∧ s4 = .slice A' (l.length - 64 * q) c' ∧ l.length - 64 * q ≤ c' ∧
    Aside (Sl wr B A' 1 (l.length - 64 * q) ((l.drop (64 * q)).map bv) ∧ Blk wr w.heap.size 24 (List.replicate 32 (.int .u8 0)) ∧ Blk wr (w.heap.size + 1) 61 (stl (absorb q hv0 (l.take (64 * q)))) ∧ Below w.heap.size w wr ∧ B ≤ wr.heap.size ∧ w.heap.size + 2 ≤ wr.heap.size))
  case atStart =>
    refine ⟨0, A, c, rfl, rfl, by omega, ?_, (Blk.new w 24 _).alloc _, ?_, ((Below.refl _ _).alloc (Nat.le_refl _) _).alloc (by simp) _, by simp; omega, by simp⟩
    · rw [Nat.mul_zero, Nat.sub_zero, List.drop_zero]
      exact HX.out.below (((Below.refl _ _).alloc hB _).alloc (by simp; omega) _)
    · exact Blk.new2 w (.cells (List.replicate 32 (.int .u8 0)).toArray 24) 61 (stl hv0)
  case round =>
    obtain ⟨q, A', c', hg, rfl, hc', HA⟩ := hrel
    by_cases hq : 64 ≤ l.length - 64 * q
    · have hqi : (64 : Int) ≤ ((l.length - 64 * q : Nat) : Int) := by omega
      obtain ⟨s, hs⟩ : ∃ s, s = absorb q hv0 (l.take (64 * q)) := ⟨_, rfl⟩
      have hV := HA.out.2.2.1
      rw [← hs] at hV
      have hct : ∀ W, (Instr.sliceAt 22 (.slice A' (l.length - 64 * q) c') none (some (.int .i64 64)) none).run Tryd.prog W = .ok (.slice A' 64 c') W := fun W => cut_to (P := Tryd.prog) (T := 22) (e := 5) Tryd.underlying22 (fun W => by kernel_rfl) A' (n := l.length - 64 * q) (cap := c') (k := 64) (by omega) hc' W
      obtain ⟨A2, hcf0, hS2⟩ := cut_from (P := Tryd.prog) (T := 22) (e := 5) (size := 1) Tryd.underlying22 (fun W => by kernel_rfl) A' (n := l.length - 64 * q) (cap := c') (k := 64) (by omega) hc'
      have hcf : ∀ W, (Instr.sliceAt 22 (.slice A' (l.length - 64 * q) c') (some (.int .i64 64)) none none).run Tryd.prog W = .ok (.slice A2 (l.length - 64 * (q + 1)) (c' - 64)) W := fun W => by
        have := hcf0 W
        rw [show l.length - 64 * q - 64 = l.length - 64 * (q + 1) by omega] at this
        exact this
      clear hcf0
      have hchunk : Hid (Sl wr B A' 1 64 (((l.drop (64 * q)).take 64).map bv)) := by
        have := HA.out.1.take (k := 64) (by omega)
        rw [Nat.mul_one, ← List.map_take] at this
        exact this
      have hrest : Hid (Sl wr B A2 1 (l.length - 64 * (q + 1)) ((l.drop (64 * (q + 1))).map bv)) := by
        have := hS2 wr B _ HA.out.1
        rw [Nat.mul_one, ← List.map_drop, List.drop_drop, show l.length - 64 * q - 64 = l.length - 64 * (q + 1) by omega, show 64 * q + 64 = 64 * (q + 1) by omega] at this
        exact this
      have HST : Hid (comp s ((l.drop (64 * q)).take 64) = absorb (q + 1) hv0 (l.take (64 * (q + 1)))) := by
        rw [absorb_snoc q _ _ (by omega), ← hs]; exact rfl
      have HV := hideIt hV
      clear hs hV hS2
      go_wp2_with fail
      refine still_tail 3 (by kernel_rfl) (by kernel_rfl) ?_
      intro w2 hw2
      have HW2 := hideIt hw2
      have HV2 : Hid (Blk w2 (w.heap.size + 1) 61 (stl s)) := by rw [hw2]; exact HV.out
      clear hw2
      simp only [List.take_succ_cons, List.take_zero, List.drop_succ_cons, List.drop_zero]
      refine still_load rfl 61 (.tmp 3) rfl (stv s) (run_load_blk HV2.out _ (.array 8 60) (by kernel_rfl) rfl (by kernel_rfl)) ?_
      repeat still_step
      refine wpStill_nil ?_
      obtain ⟨b, hb⟩ : ∃ b, b = (l.drop (64 * q)).take 64 := ⟨_, rfl⟩
      rw [← hb] at hchunk HST
      clear hb
      have HBW : Hid (Below w.heap.size w w2) := by rw [HW2.out]; exact HA.out.2.2.2.1.drew
      have hsz2 : w.heap.size + 2 ≤ w2.heap.size := by rw [HW2.out]; exact HA.out.2.2.2.2.2
      have hB2 : B ≤ w2.heap.size := by rw [HW2.out]; exact HA.out.2.2.2.2.1
      obtain ⟨s', hs'⟩ : ∃ x, x = comp s b := ⟨_, rfl⟩
      have HC : Hid (Calls Tryd.prog 30 #[stv s, .slice A' 64 c'] w2 fun e w' => e = .returned (stv s') ∧ Below w2.heap.size w2 w') := by
        rw [hs']; exact comp_any s A' B c' b w2 (by rw [HW2.out]; exact hchunk.out) (by omega) hB2 (HT.out.keep HBW.out)
      rw [← hs'] at HST
      clear hs'
      go_wp2_with (first
        | (go_at_call 30; refine HC.out.mono ?_; rintro e w3 ⟨rfl, hb3⟩; have HB3 := hideIt hb3; clear hb3)
        | ((with_reducible refine at_store ?_); refine wpList_store_row rfl 61 (.tmp 3) (.tmp 17) rfl (w.heap.size + 1) (stl s').toArray rfl rfl _ _ (HV2.out.kept HB3.out (by omega)) (by kernel_rfl) rfl (all_oneCell_toArray (stl_ones _)) ?_))
      have hsz3 := HB3.out.size
      go_roundg (gk - 64)
      case measure => omega
      case rel =>
        have hR2 : Blk w2 w.heap.size 24 (List.replicate 32 (.int .u8 0)) := by rw [HW2.out]; exact HA.out.2.1
        refine ⟨q + 1, A2, c' - 64, by omega, rfl, by omega, ?_, Blk.row_other (hR2.kept HB3.out (by omega)) (by omega) _, ?_, below_row (HBW.out.trans (HB3.out.mono (by omega))) (Nat.le_succ _) _, by simp; omega, by simp; omega⟩
        · refine (show Sl w2 B A2 1 _ _ by rw [HW2.out]; exact hrest.out).keep fun b' o hb' => ?_
          rw [cell_setRow_other _ _ _ _ (show b' ≠ w.heap.size + 1 by omega)]
          exact HB3.out.cell (p := ⟨b', o, none⟩) (show b' < w2.heap.size by omega)
        · have := Blk.row (HV2.out.kept HB3.out (by omega)) (stl s')
          rw [HST.out] at this ⊢
          exact this
    · have hq64 : 64 * q ≤ l.length := by omega
      obtain ⟨r, hr⟩ : ∃ r, r = l.drop (64 * q) := ⟨_, rfl⟩
      have hrl : r.length = l.length - 64 * q := by rw [hr, List.length_drop]
      have hX1 : Sl wr B A' 1 (l.length - 64 * q) (r.map bv) := by rw [hr]; exact HA.out.1
      obtain ⟨s1, hs1⟩ : ∃ s, s = absorb q hv0 (l.take (64 * q)) := ⟨_, rfl⟩
      have hV1 := HA.out.2.2.1
      rw [← hs1] at hV1
      obtain ⟨E, hE⟩ : ∃ E, E = ending r l.length := ⟨_, rfl⟩
      have hE64 : E.length % 64 = 0 := by rw [hE]; exact ending_mod _ _
      have hEle : E.length ≤ 128 := by rw [hE, ending_len r _ (by omega)]; split <;> omega
      have HZ1 : Hid (z = outB (absorb (E.length / 64) s1 E)) := by rw [HZ.out, sha_split l q hq64, hE, hs1, hr]; exact rfl
      have HE : Hid (Calls Tryd.prog 31 #[.slice A' (l.length - 64 * q) c', .int .i64 (l.length : Int)] wr fun e w' => ∃ g, e = .returned (.slice (some ⟨g, 0, none⟩) E.length E.length) ∧ wr.heap.size ≤ g ∧ Blk w' g 5 (E.map bv) ∧ Below wr.heap.size wr w') := by
        rw [hE]; exact ending_v A' B c' (l.length - 64 * q) r l.length wr hrl hX1 (by omega) (by omega) HA.out.2.2.2.2.1
      have HV1 := hideIt hV1
      have HR1 := hideIt HA.out.2.1
      have HB1 := hideIt HA.out.2.2.2.1
      have hsz1 := HA.out.2.2.2.2.2
      clear hr hrl hX1 hs1 hV1 hE HA
      obtain ⟨w1, rfl⟩ : ∃ x, x = wr := ⟨wr, rfl⟩
      go_wp2_with (go_at_call 31; refine HE.out.mono ?_; rintro e w4 ⟨g4, rfl, hg4, hblk4, hb4⟩; have HE4 := hideIt hblk4; have HB4 := hideIt hb4; clear hblk4 hb4)
      have hsz4 := HB4.out.size
      have hg4l := HE4.out.lt
      go_loopg [5] E.length (fun g s5 wr => ∃ (q : Nat) (A' : Option Addr) (c' : Nat), g + 64 * q = E.length ∧ s5 = .slice A' (E.length - 64 * q) c' ∧ E.length - 64 * q ≤ c' ∧
        Aside ((Blk wr g4 5 (E.map bv) ∧ (64 * q < E.length → A' = some ⟨g4, 64 * q, none⟩)) ∧ Blk wr w.heap.size 24 (List.replicate 32 (.int .u8 0)) ∧ Blk wr (w.heap.size + 1) 61 (stl (absorb q s1 (E.take (64 * q)))) ∧ Below w.heap.size w wr ∧ w4.heap.size ≤ wr.heap.size ∧ w.heap.size + 2 ≤ wr.heap.size))
      case atStart =>
        refine ⟨0, some ⟨g4, 0, none⟩, E.length, rfl, rfl, by omega, ?_, HR1.out.kept HB4.out (by omega), HV1.out.kept HB4.out (by omega), HB1.out.trans (HB4.out.mono (by omega)), Nat.le_refl _, by omega⟩
        exact ⟨HE4.out, fun _ => rfl⟩
      case round =>
        obtain ⟨q, A', c', hg, rfl, hc', HA⟩ := hrel
        by_cases hq : 0 < E.length - 64 * q
        · have hqi : (0 : Int) < ((E.length - 64 * q : Nat) : Int) := by omega
          have hq6 : 64 ≤ E.length - 64 * q := by omega
          have hg4w : w.heap.size + 2 ≤ g4 := by omega
          obtain ⟨s, hs⟩ : ∃ s, s = absorb q s1 (E.take (64 * q)) := ⟨_, rfl⟩
          have hV := HA.out.2.2.1
          rw [← hs] at hV
          have hct : ∀ W, (Instr.sliceAt 22 (.slice A' (E.length - 64 * q) c') none (some (.int .i64 64)) none).run Tryd.prog W = .ok (.slice A' 64 c') W := fun W => cut_to (P := Tryd.prog) (T := 22) (e := 5) Tryd.underlying22 (fun W => by kernel_rfl) A' (n := E.length - 64 * q) (cap := c') (k := 64) (by omega) hc' W
          have hA1 := HA.out.1.2 (by omega)
          obtain ⟨A2, hcf0, hS2⟩ := cut_blk (P := Tryd.prog) (T := 22) (e := 5) Tryd.underlying22 (fun W => by kernel_rfl) A' g4 (64 * q) (n := E.length - 64 * q) (cap := c') (k := 64) hA1 (by omega) hc'
          have hcf : ∀ W, (Instr.sliceAt 22 (.slice A' (E.length - 64 * q) c') (some (.int .i64 64)) none none).run Tryd.prog W = .ok (.slice A2 (E.length - 64 * (q + 1)) (c' - 64)) W := fun W => by
            have := hcf0 W
            rw [show E.length - 64 * q - 64 = E.length - 64 * (q + 1) by omega] at this
            exact this
          clear hcf0
          have hchunk : Hid (Sl wr wr.heap.size A' 1 64 (((E.drop (64 * q)).take 64).map bv)) := by
            rw [hA1]; exact chunk_sl HA.out.1.1 (by omega)
          have hrest : Hid (64 * (q + 1) < E.length → A2 = some ⟨g4, 64 * (q + 1), none⟩) := fun h => hS2 (by omega)
          clear hA1
          have HST : Hid (comp s ((E.drop (64 * q)).take 64) = absorb (q + 1) s1 (E.take (64 * (q + 1)))) := by
            rw [absorb_snoc q _ _ (by omega), ← hs]; exact rfl
          have HV := hideIt hV
          clear hs hV hS2
          go_wp2_with fail
          refine still_tail 3 (by kernel_rfl) (by kernel_rfl) ?_
          intro w2 hw2
          have HW2 := hideIt hw2
          have HV2 : Hid (Blk w2 (w.heap.size + 1) 61 (stl s)) := by rw [hw2]; exact HV.out
          clear hw2
          simp only [List.take_succ_cons, List.take_zero, List.drop_succ_cons, List.drop_zero]
          refine still_load rfl 61 (.tmp 3) rfl (stv s) (run_load_blk HV2.out _ (.array 8 60) (by kernel_rfl) rfl (by kernel_rfl)) ?_
          repeat still_step
          refine wpStill_nil ?_
          obtain ⟨b, hb⟩ : ∃ b, b = (E.drop (64 * q)).take 64 := ⟨_, rfl⟩
          rw [← hb] at hchunk HST
          clear hb
          have HBW : Hid (Below w.heap.size w w2) := by rw [HW2.out]; exact HA.out.2.2.2.1.drew
          have hsz2 : w.heap.size + 2 ≤ w2.heap.size := by rw [HW2.out]; exact HA.out.2.2.2.2.2
          have hB2 : w4.heap.size ≤ w2.heap.size := by rw [HW2.out]; exact HA.out.2.2.2.2.1
          obtain ⟨s', hs'⟩ : ∃ x, x = comp s b := ⟨_, rfl⟩
          have HC : Hid (Calls Tryd.prog 30 #[stv s, .slice A' 64 c'] w2 fun e w' => e = .returned (stv s') ∧ Below w2.heap.size w2 w') := by
            rw [hs']; exact comp_any s A' wr.heap.size c' b w2 (by rw [HW2.out]; exact hchunk.out) (by omega) (by rw [HW2.out]; exact Nat.le_refl _) (HT.out.keep HBW.out)
          rw [← hs'] at HST
          clear hs'
          go_wp2_with (first
            | (go_at_call 30; refine HC.out.mono ?_; rintro e w3 ⟨rfl, hb3⟩; have HB3 := hideIt hb3; clear hb3)
            | ((with_reducible refine at_store ?_); refine wpList_store_row rfl 61 (.tmp 3) (.tmp 30) rfl (w.heap.size + 1) (stl s').toArray rfl rfl _ _ (HV2.out.kept HB3.out (by omega)) (by kernel_rfl) rfl (all_oneCell_toArray (stl_ones _)) ?_))
          have hsz3 := HB3.out.size
          go_roundg (gk - 64)
          case measure => omega
          case rel =>
            have hR2 : Blk w2 w.heap.size 24 (List.replicate 32 (.int .u8 0)) := by rw [HW2.out]; exact HA.out.2.1
            refine ⟨q + 1, A2, c' - 64, by omega, rfl, by omega, ?_, Blk.row_other (hR2.kept HB3.out (by omega)) (by omega) _, ?_, below_row (HBW.out.trans (HB3.out.mono (by omega))) (Nat.le_succ _) _, by simp; omega, by simp; omega⟩
            · exact ⟨Blk.row_other ((show Blk w2 g4 5 (E.map bv) by rw [HW2.out]; exact HA.out.1.1).kept HB3.out (by rw [HW2.out]; exact HA.out.1.1.lt)) (by omega) _, hrest.out⟩
            · have := Blk.row (HV2.out.kept HB3.out (by omega)) (stl s')
              rw [HST.out] at this ⊢
              exact this
        · have hE8 : E.length = 64 * q := by omega
          obtain ⟨s2, hs2⟩ : ∃ s, s = absorb (E.length / 64) s1 E := ⟨_, rfl⟩
          rw [← hs2] at HZ1
          have hV2 : Blk wr (w.heap.size + 1) 61 (stl s2) := by
            have := HA.out.2.2.1
            rw [List.take_of_length_le (by omega)] at this
            rw [hs2, show E.length / 64 = q by omega]; exact this
          have HV2 := hideIt hV2
          have HR2 := hideIt HA.out.2.1
          have HB2 := hideIt HA.out.2.2.2.1
          have hsz2 := HA.out.2.2.2.2.2
          clear hs2 hV2 HA
          have hnq : ¬ (0 : Int) < ((E.length - 64 * q : Nat) : Int) := by omega
          obtain ⟨w5, rfl⟩ : ∃ x, x = wr := ⟨wr, rfl⟩
          go_wp2_with ((with_reducible refine at_load ?_); refine wpList_load_row rfl 61 (.tmp 3) rfl (w.heap.size + 1) rfl _ _ (0, 0) (.array 8 60) (HV2.out.alloc _) (by kernel_rfl) rfl (by kernel_rfl) ?_)
          go_loopg [34] 8 (fun g s34 wr => ∃ i : Nat, g + i = 8 ∧ s34 = .int .i64 i ∧ Aside (Blk wr w5.heap.size 24 ((fillO s2 i).map bv) ∧ Blk wr w.heap.size 24 (List.replicate 32 (.int .u8 0)) ∧ Below w.heap.size w wr))
          case atStart => exact ⟨0, rfl, rfl, Blk.new w5 24 (List.replicate 32 (.int .u8 0)), HR2.out.alloc _, HB2.out.alloc (by omega) _⟩
          case round =>
            obtain ⟨i, hg, rfl, HA⟩ := hrel
            by_cases hi8 : i < 8
            · obtain ⟨v, hv⟩ : ∃ v, v = s2.list.getD i 0 := ⟨_, rfl⟩
              have hix := fun W => index_st s2 i hi8 W
              rw [← hv] at hix
              have hc0 : wr.cell? ⟨w5.heap.size, 4 * i, none⟩ = some (.int .u8 0) := by rw [HA.out.1.cell, List.getElem?_map, show 4 * i = 4 * i + 0 from rfl, fillO_at s2 i 0 hi8 (by omega)]; rfl
              have hc1 : wr.cell? ⟨w5.heap.size, 4 * i + 1, none⟩ = some (.int .u8 0) := by rw [HA.out.1.cell, List.getElem?_map, fillO_at s2 i 1 hi8 (by omega)]; rfl
              have hc2 : wr.cell? ⟨w5.heap.size, 4 * i + 2, none⟩ = some (.int .u8 0) := by rw [HA.out.1.cell, List.getElem?_map, fillO_at s2 i 2 hi8 (by omega)]; rfl
              have hc3 : wr.cell? ⟨w5.heap.size, 4 * i + 3, none⟩ = some (.int .u8 0) := by rw [HA.out.1.cell, List.getElem?_map, fillO_at s2 i 3 hi8 (by omega)]; rfl
              have hf0 : wr.frozen? ⟨w5.heap.size, 4 * i, none⟩ = false := HA.out.1.free _
              have hf1 : wr.frozen? ⟨w5.heap.size, 4 * i + 1, none⟩ = false := HA.out.1.free _
              have hf2 : wr.frozen? ⟨w5.heap.size, 4 * i + 2, none⟩ = false := HA.out.1.free _
              have hf3 : wr.frozen? ⟨w5.heap.size, 4 * i + 3, none⟩ = false := HA.out.1.free _
              have HV := hideIt hv
              clear hv
              go_wp2
              go_roundg (gk - 1)
              case measure => omega
              case rel =>
                refine ⟨i + 1, by omega, by go_num, ?_, (((HA.out.2.1.store_other (by omega)).store_other (by omega)).store_other (by omega)).store_other (by omega), (((HA.out.2.2.setCell (by simp; omega) _).setCell (by simp; omega) _).setCell (by simp; omega) _).setCell (by simp; omega) _⟩
                have h := (((HA.out.1.store (4 * i) (bv (shr v 24).toUInt8)).store (4 * i + 1) (bv (shr v 16).toUInt8)).store (4 * i + 2) (bv (shr v 8).toUInt8)).store (4 * i + 3) (bv v.toUInt8)
                rw [← List.map_set, ← List.map_set, ← List.map_set, ← List.map_set, fillO_step s2 i hi8 v HV.out] at h
                exact h
            · have hO : Blk wr w5.heap.size 24 (z.map bv) := by
                have := HA.out.1
                rw [show i = 8 by omega, fillO_end] at this
                rw [HZ1.out]; exact this
              have hzl : z.length = 32 := by rw [HZ1.out]; exact outB_len _
              have HO := hideIt hO
              have HZL := hideIt hzl
              have HR6 := hideIt HA.out.2.1
              have HB6 := hideIt HA.out.2.2
              clear hO hzl HA
              go_wp2_with (first
                | ((with_reducible refine at_load ?_); refine wpList_load_row rfl 24 (.tmp 6) rfl w5.heap.size rfl _ (z.map bv).toArray (0, 0) (.array 32 5) HO.out (by kernel_rfl) rfl (by rw [List.size_toArray, List.length_map, HZL.out]; kernel_rfl) ?_)
                | ((with_reducible refine at_store ?_); refine wpList_store_row rfl 24 (.tmp 2) (.tmp 65) rfl w.heap.size (z.map bv).toArray rfl rfl _ _ HR6.out (by rw [List.size_toArray, List.length_map, HZL.out]; kernel_rfl) (by rw [List.size_toArray, List.size_toArray, List.length_map, HZL.out]; rfl) (all_oneCell_toArray (bv_one _)) ?_))
              refine bodyPost_ret (v := .agg (z.map bv).toArray) (results_cell_row rfl _ _ w.heap.size 24 (z.map bv).toArray (0, 0) (.array 32 5) rfl (Blk.row HR6.out _) (by kernel_rfl) rfl (by rw [List.size_toArray, List.length_map, HZL.out]; kernel_rfl)) rfl ⟨rfl, below_row HB6.out (Nat.le_refl _) _⟩

end Go.Proofs.YtkjnimcapjjfdaaDoor
