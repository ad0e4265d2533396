/-
  The last blocks of a message, walked: digest.ending.
-/
import Derived.Test.YtkjnimcapjjfdaaDoorSched
import Derived.Test.YtkjnimcapjjfdaaDoorWInt
import Derived.Laws.CopyOwn
namespace Go.Proofs.YtkjnimcapjjfdaaDoor
open Go.RowKit
set_option linter.unusedVariables false

theorem own_blk {w : World} {base : Nat} {e : TypeId} {g n : Nat} {xs : List Value} (h : w.ownsRow base e 1 (.slice (some ⟨g, 0, none⟩) n n) n xs) : Blk w g e xs := by
  obtain ⟨h0, h⟩ := h
  rcases h with ⟨h1, _⟩ | ⟨g', cap, cur, h1, _, h2, _, _, h3, h4⟩
  · cases h1
  · injection h1 with a1 a2 a3
    injection a1 with a1
    injection a1 with a1
    subst a1 a3
    rw [List.take_of_length_le (by rw [Array.length_toList, h3]; exact Nat.le_refl _)] at h4
    unfold Blk
    rw [h2, ← h4]
theorem blk_sl {w : World} {g n : Nat} {e : TypeId} {xs : List Value} (h : Blk w g e xs) (hn : xs.length = n) : Sl w w.heap.size (some ⟨g, 0, none⟩) 1 n xs :=
  ⟨by omega, fun _ => ⟨g, 0, rfl, h.lt, fun j u hu => by rw [h.cell, Nat.zero_add]; exact hu⟩⟩

/-- The last blocks while the length is written into them. -/
def fillE (r : List UInt8) (N n i : Nat) : List UInt8 := r ++ 128 :: (List.replicate (N - r.length - 9) 0 ++ (List.replicate (8 - i) 0 ++ (be8 n).drop (8 - i)))
theorem fillE_len (r : List UInt8) (N n i : Nat) (h : r.length + 9 ≤ N) (hi : i ≤ 8) : (fillE r N n i).length = N := by
  simp only [fillE, be8, List.length_append, List.length_cons, List.length_replicate, List.length_drop, List.length_nil]
  omega
theorem be8_step (n i : Nat) (hi : i < 8) : (be8 n).drop (8 - (i + 1)) = UInt8.ofNat (n / 2 ^ (8 * i)) :: (be8 n).drop (8 - i) := by
  match i, hi with
  | 0, _ => simp [be8]
  | 1, _ => rfl
  | 2, _ => rfl
  | 3, _ => rfl
  | 4, _ => rfl
  | 5, _ => rfl
  | 6, _ => rfl
  | 7, _ => rfl
theorem set_last {α : Type} (p t : List α) (z x : α) (m j : Nat) (hj : j = p.length + m) : (p ++ (List.replicate (m + 1) z ++ t)).set j x = p ++ (List.replicate m z ++ x :: t) := by
  subst hj
  rw [List.set_append_right _ _ (by omega), Nat.add_sub_cancel_left, List.set_append_left _ _ (by simp), List.replicate_succ', List.set_append_right _ _ (by simp)]
  simp
theorem fillE_step (r : List UInt8) (N n i : Nat) (h : r.length + 9 ≤ N) (hi : i < 8) : (fillE r N n i).set (N - 1 - i) (UInt8.ofNat (n / 2 ^ (8 * i))) = fillE r N n (i + 1) := by
  unfold fillE
  rw [be8_step n i hi, show 8 - i = (8 - (i + 1)) + 1 by omega, show r ++ 128 :: (List.replicate (N - r.length - 9) 0 ++ (List.replicate (8 - (i + 1) + 1) 0 ++ (be8 n).drop (8 - (i + 1) + 1))) =
    (r ++ 128 :: List.replicate (N - r.length - 9) 0) ++ (List.replicate (8 - (i + 1) + 1) 0 ++ (be8 n).drop (8 - (i + 1) + 1)) by simp,
    set_last _ _ _ _ _ _ (by simp; omega)]
  simp
theorem fillE_end (r : List UInt8) (N n : Nat) (h : r.length < 64) (hN : N = if 56 ≤ r.length then 128 else 64) : fillE r N (8 * n) 8 = ending r n := by
  unfold fillE ending
  have : N - r.length - 9 = zs r.length := by unfold zs; split at hN <;> omega
  rw [this]
  simp
/-- The block when the length is still to come. -/
theorem fillE_start (r : List UInt8) (N n : Nat) (h : r.length + 9 ≤ N) : (splice (List.replicate N (.int .u8 0)) 0 (r.map bv)).set r.length (.int .u8 128) = (fillE r N n 0).map bv := by
  unfold splice fillE
  have e : (be8 n).drop (8 - 0) = [] := rfl
  rw [e, List.take_zero, List.nil_append, Nat.zero_add, List.length_map, List.drop_replicate, show N - r.length = (N - r.length - 9) + 8 + 1 by omega, List.replicate_succ,
    List.set_append_right _ _ (by simp), List.length_map, Nat.sub_self, List.set_cons_zero]
  simp only [List.map_append, List.map_cons, List.map_replicate, List.append_nil, Nat.sub_zero]
  rw [← List.replicate_append_replicate]
  rfl

theorem shift8 (n i : Nat) (h : n ≤ 1000000000000) (hi : i < 8) : binOp .shr 88 (.int .u64 ((n : Int) * 8)) (.int .i64 (8 * (i : Int))) = pure (.int .u64 ((8 * n / 2 ^ (8 * i) : Nat) : Int)) := by
  rw [binOp_shr]
  simp only [Op.shift, if_neg (show ¬ (8 * (i : Int) < 0) by omega)]
  congr 2
  have h1 : min (8 * (i : Int)).toNat IntKind.u64.bits = 8 * i := by
    rw [show (8 * (i : Int)).toNat = 8 * i by omega]
    simp [IntKind.bits]; omega
  rw [h1, Int.fdiv_eq_ediv_of_nonneg _ (by have : (0 : Int) < 2 ^ (8 * i) := Int.pow_pos (by omega); omega), Int.natCast_ediv, Int.natCast_mul, Int.natCast_pow, Int.mul_comm]
  rfl
theorem run_convert_low {P : Program} (w : World) (s d : TypeId) (hs : (P.underlying s).isSome = true) (hd : P.underlying d = some (.int .u8)) (m : Nat) :
    (convert s d (.int .u64 (m : Int))).run P w = .ok (.int .u8 ((UInt8.ofNat m).toNat : Int)) w := by
  obtain ⟨u, hu⟩ := Option.isSome_iff_exists.mp hs
  simp only [convert, Sem.run_bind, run_underlying hu, run_underlying hd, Result.andThen_ok, Conv.intToInt]
  rw [IntKind.wrap_u8', UInt8.toNat_ofNat']
  rfl

theorem made_blk {w : World} {base n : Nat} {e : TypeId} {g : Nat} {k : IntKind} (h : w.ownsRow base e 1 (.slice (some ⟨g, 0, none⟩) n n) n (madeCells (Value.int k 0).cells (n * 1)).toList) : Blk w g e (List.replicate n (.int k 0)) := by
  have h := own_blk h
  rw [Nat.mul_one, show (madeCells (Value.int k 0).cells n).toList = List.replicate n (.int k 0) from toList_madeCells_one _ n] at h
  exact h
theorem src_of {w : World} {B n : Nat} {A : Option Addr} {xs : List Value} (h : Sl w B A 1 n xs) (hp : 0 < xs.length) : ∃ ad, A = some ad ∧ ∀ j v, xs[j]? = some v → w.cell? (ad.add j) = some v := by
  obtain ⟨g, o, e, _, hc⟩ := h.2 hp
  exact ⟨⟨g, o, none⟩, e, fun j v hv => by rw [addr_add]; exact hc j v hv⟩
theorem cell_mid {w : World} {g N : Nat} {t : TypeId} {r : List UInt8} (h : Blk w g t (splice (List.replicate N (.int .u8 0)) 0 (r.map bv))) (hN : r.length < N) : w.cell? ⟨g, r.length, none⟩ = some (.int .u8 0) := by
  rw [h.cell]
  unfold splice
  rw [List.take_zero, List.nil_append, List.getElem?_append_right (by simp), List.length_map, Nat.sub_self, List.drop_replicate, List.getElem?_replicate, if_pos (by omega)]

set_option maxHeartbeats 800000 in
set_option maxRecDepth 100000 in
theorem ending_any (A : Option Addr) (B c : Nat) (r : List UInt8) (n N : Nat) (w : World) (hx : Sl w B A 1 r.length (r.map bv)) (hr : r.length < 64) (hn : n ≤ 1000000000000) (hB : B ≤ w.heap.size) (hN : N = if 56 ≤ r.length then 128 else 64) :
    Calls Tryd.prog 31 #[.slice A r.length c, .int .i64 n] w fun e w' =>
      ∃ g, e = .returned (.slice (some ⟨g, 0, none⟩) N N) ∧ w.heap.size ≤ g ∧ Blk w' g 5 ((ending r n).map bv) ∧ Below w.heap.size w w' := by
  have HX := hideIt hx
  have HN := hideIt hN
  obtain ⟨i0, hi, hz0, hz1, hz2⟩ := info_parts Tryd.info5
  have h9 : r.length + 9 ≤ N := by split at hN <;> omega
  have hcase : (56 ≤ r.length ∧ N = 128) ∨ (r.length < 56 ∧ N = 64) := by split at hN <;> omega
  clear hx hN
  rcases hcase with ⟨h56, rfl⟩ | ⟨h56, rfl⟩
  · go_enter Tryd.func31, Tryd.ntmps31
    go_wp2_with (first
      | ((with_reducible refine at_make ?_); refine wpList_make_full w rfl (.tmp 12) (.tmp 12) 22 rfl w.heap.size 5 i0 (.int .u8 0) 1 Tryd.underlying22 hi hz0 hz1 .i64 .i64 _ _ 128 rfl rfl rfl rfl (by rw [hz2]; omega) (by unfold maxLen; omega) (Nat.le_refl _) ?_; intro w1 hown hgr; have HB1 := hideIt (made_blk hown); have HL1 := hideIt ((Below.refl w.heap.size w).grown hgr (Nat.le_refl _) (by simp)); clear hown hgr)
      | ((with_reducible refine at_copy ?_); refine wpList_copy_splice rfl (.tmp 14) (.tmp 15) 22 22 rfl 5 Tryd.underlying22 (by kernel_rfl) _ _ 128 128 r.length c rfl rfl w.heap.size 0 (List.replicate 128 (.int .u8 0)) 5 HB1.out (r.map bv) (by rw [List.length_map]; exact (Nat.min_eq_left (by omega)).symm) (fun hp => ⟨rfl, src_of (HX.out.below (HL1.out.mono hB)) hp⟩) (by simp; omega) (bv_one _) w.heap.size w HL1.out (Nat.le_refl _) ?_; intro w2 HC2 hL2; have HL2 := hideIt hL2; clear hL2; have hcz := cell_mid HC2.out (by omega); have hfz : w2.frozen? ⟨w.heap.size, r.length, none⟩ = false := Blk.free HC2.out _))
    have HB3 : Hid (Blk (w2.setCell ⟨w.heap.size, r.length, none⟩ (.int .u8 128)) w.heap.size 5 ((fillE r 128 (8 * n) 0).map bv)) := by
      have h := Blk.store (show Blk w2 w.heap.size 5 _ from HC2.out) r.length (.int .u8 128)
      rw [fillE_start r 128 (8 * n) (by omega)] at h
      exact h
    have HL3 : Hid (Below w.heap.size w (w2.setCell ⟨w.heap.size, r.length, none⟩ (.int .u8 128))) := HL2.out.setCell (Nat.le_refl _) _
    clear hcz hfz
    go_loopg [24] 8 (fun g s24 wr => ∃ i : Nat, g + i = 8 ∧ s24 = .int .i64 i ∧ Aside (Blk wr w.heap.size 5 ((fillE r 128 (8 * n) i).map bv) ∧ Below w.heap.size w wr))
    case atStart => exact ⟨0, rfl, rfl, HB3, HL3⟩
    case round =>
      obtain ⟨i, hg, rfl, HA⟩ := hrel
      by_cases hi8 : i < 8
      · have hsh := shift8 n i hn hi8
        obtain ⟨m, hm⟩ : ∃ m, m = 8 * n / 2 ^ (8 * i) := ⟨_, rfl⟩
        rw [← hm] at hsh
        have hcv := fun W => run_convert_low (P := Tryd.prog) W 88 5 (by kernel_rfl) Tryd.underlying5 m
        have hcell : ∃ u, wr.cell? ⟨w.heap.size, 128 - 1 - i, none⟩ = some u := by
          rw [HA.out.1.cell, List.getElem?_eq_getElem (by rw [List.length_map, fillE_len r 128 (8 * n) i (by omega) (by omega)]; omega)]
          exact ⟨_, rfl⟩
        obtain ⟨u, hcell⟩ := hcell
        have hfz : wr.frozen? ⟨w.heap.size, 128 - 1 - i, none⟩ = false := HA.out.1.free _
        have hst : (fillE r 128 (8 * n) i).set (128 - 1 - i) (UInt8.ofNat m) = fillE r 128 (8 * n) (i + 1) := by rw [hm]; exact fillE_step r 128 (8 * n) i (by omega) hi8
        have HS := hideIt hst
        have HM := hideIt hm
        clear hst hm
        go_wp2
        go_roundg (gk - 1)
        case measure => omega
        case rel =>
          refine ⟨i + 1, by omega, by go_num, ?_, HA.out.2.setCell (Nat.le_refl _) _⟩
          have h := Blk.store HA.out.1 (128 - 1 - i) (bv (UInt8.ofNat m))
          rw [← List.map_set, HS.out] at h
          exact h
      · go_wp2
        go_ret
        have hi9 : i = 8 := by omega
        have h := HA.out.1
        rw [hi9, fillE_end r 128 n hr HN.out] at h
        exact ⟨_, rfl, Nat.le_refl _, h, HA.out.2⟩
  · go_enter Tryd.func31, Tryd.ntmps31
    go_wp2_with (first
      | ((with_reducible refine at_make ?_); refine wpList_make_full w rfl (.tmp 12) (.tmp 12) 22 rfl w.heap.size 5 i0 (.int .u8 0) 1 Tryd.underlying22 hi hz0 hz1 .i64 .i64 _ _ 64 rfl rfl rfl rfl (by rw [hz2]; omega) (by unfold maxLen; omega) (Nat.le_refl _) ?_; intro w1 hown hgr; have HB1 := hideIt (made_blk hown); have HL1 := hideIt ((Below.refl w.heap.size w).grown hgr (Nat.le_refl _) (by simp)); clear hown hgr)
      | ((with_reducible refine at_copy ?_); refine wpList_copy_splice rfl (.tmp 14) (.tmp 15) 22 22 rfl 5 Tryd.underlying22 (by kernel_rfl) _ _ 64 64 r.length c rfl rfl w.heap.size 0 (List.replicate 64 (.int .u8 0)) 5 HB1.out (r.map bv) (by rw [List.length_map]; exact (Nat.min_eq_left (by omega)).symm) (fun hp => ⟨rfl, src_of (HX.out.below (HL1.out.mono hB)) hp⟩) (by simp; omega) (bv_one _) w.heap.size w HL1.out (Nat.le_refl _) ?_; intro w2 HC2 hL2; have HL2 := hideIt hL2; clear hL2; have hcz := cell_mid HC2.out (by omega); have hfz : w2.frozen? ⟨w.heap.size, r.length, none⟩ = false := Blk.free HC2.out _))
    have HB3 : Hid (Blk (w2.setCell ⟨w.heap.size, r.length, none⟩ (.int .u8 128)) w.heap.size 5 ((fillE r 64 (8 * n) 0).map bv)) := by
      have h := Blk.store (show Blk w2 w.heap.size 5 _ from HC2.out) r.length (.int .u8 128)
      rw [fillE_start r 64 (8 * n) (by omega)] at h
      exact h
    have HL3 : Hid (Below w.heap.size w (w2.setCell ⟨w.heap.size, r.length, none⟩ (.int .u8 128))) := HL2.out.setCell (Nat.le_refl _) _
    clear hcz hfz
    go_loopg [24] 8 (fun g s24 wr => ∃ i : Nat, g + i = 8 ∧ s24 = .int .i64 i ∧ Aside (Blk wr w.heap.size 5 ((fillE r 64 (8 * n) i).map bv) ∧ Below w.heap.size w wr))
    case atStart => exact ⟨0, rfl, rfl, HB3, HL3⟩
    case round =>
      obtain ⟨i, hg, rfl, HA⟩ := hrel
      by_cases hi8 : i < 8
      · have hsh := shift8 n i hn hi8
        obtain ⟨m, hm⟩ : ∃ m, m = 8 * n / 2 ^ (8 * i) := ⟨_, rfl⟩
        rw [← hm] at hsh
        have hcv := fun W => run_convert_low (P := Tryd.prog) W 88 5 (by kernel_rfl) Tryd.underlying5 m
        have hcell : ∃ u, wr.cell? ⟨w.heap.size, 64 - 1 - i, none⟩ = some u := by
          rw [HA.out.1.cell, List.getElem?_eq_getElem (by rw [List.length_map, fillE_len r 64 (8 * n) i (by omega) (by omega)]; omega)]
          exact ⟨_, rfl⟩
        obtain ⟨u, hcell⟩ := hcell
        have hfz : wr.frozen? ⟨w.heap.size, 64 - 1 - i, none⟩ = false := HA.out.1.free _
        have hst : (fillE r 64 (8 * n) i).set (64 - 1 - i) (UInt8.ofNat m) = fillE r 64 (8 * n) (i + 1) := by rw [hm]; exact fillE_step r 64 (8 * n) i (by omega) hi8
        have HS := hideIt hst
        have HM := hideIt hm
        clear hst hm
        go_wp2
        go_roundg (gk - 1)
        case measure => omega
        case rel =>
          refine ⟨i + 1, by omega, by go_num, ?_, HA.out.2.setCell (Nat.le_refl _) _⟩
          have h := Blk.store HA.out.1 (64 - 1 - i) (bv (UInt8.ofNat m))
          rw [← List.map_set, HS.out] at h
          exact h
      · go_wp2
        go_ret
        have hi9 : i = 8 := by omega
        have h := HA.out.1
        rw [hi9, fillE_end r 64 n hr HN.out] at h
        exact ⟨_, rfl, Nat.le_refl _, h, HA.out.2⟩

theorem ending_v (A : Option Addr) (B c m : Nat) (r : List UInt8) (n : Nat) (w : World) (hm : r.length = m) (hx : Sl w B A 1 m (r.map bv)) (hr : m < 64) (hn : n ≤ 1000000000000) (hB : B ≤ w.heap.size) :
    Calls Tryd.prog 31 #[.slice A m c, .int .i64 n] w fun e w' =>
      ∃ g, e = .returned (.slice (some ⟨g, 0, none⟩) (ending r n).length (ending r n).length) ∧ w.heap.size ≤ g ∧ Blk w' g 5 ((ending r n).map bv) ∧ Below w.heap.size w w' := by
  subst hm
  exact ending_any A B c r n _ w hx hr hn hB (ending_len r n hr)

end Go.Proofs.YtkjnimcapjjfdaaDoor
