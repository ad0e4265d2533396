/-
  The padded message, walked: the reference's padded.
-/
import Derived.Test.YtkjnimcapjjfdaaDoorEnding
import Derived.Test.YtkjnimcapjjfdaaDoorQuiet
namespace Go.Proofs.YtkjnimcapjjfdaaDoor
open Go.RowKit
set_option linter.unusedVariables false

theorem be8_at (n i : Nat) (hi : i < 8) : (be8 n).take (i + 1) = (be8 n).take i ++ [UInt8.ofNat (n / 2 ^ (56 - 8 * i))] := by
  have h' : i = 0 ∨ i = 1 ∨ i = 2 ∨ i = 3 ∨ i = 4 ∨ i = 5 ∨ i = 6 ∨ i = 7 := by omega
  rcases h' with rfl | rfl | rfl | rfl | rfl | rfl | rfl | rfl <;> simp [be8]
theorem map_snoc (l : List UInt8) (d : UInt8) (u : Value) (h : u = bv d) : l.map bv ++ [u] = (l ++ [d]).map bv := by subst h; simp
theorem byte_mod (m : Nat) : (.int .u8 ((m : Int) % 256) : Value) = bv (UInt8.ofNat m) := by
  unfold bv
  congr 1
theorem shift56 (n i : Nat) (h : n ≤ 1000000000000) (hi : i < 8) : binOp .shr 88 (.int .u64 (8 * (n : Int))) (.int .i64 (56 - 8 * (i : Int))) = pure (.int .u64 ((8 * n / 2 ^ (56 - 8 * i) : Nat) : Int)) := by
  rw [binOp_shr]
  simp only [Op.shift, if_neg (show ¬ (56 - 8 * (i : Int) < 0) by omega)]
  congr 2
  have h1 : min (56 - 8 * (i : Int)).toNat IntKind.u64.bits = 56 - 8 * i := by
    rw [show (56 - 8 * (i : Int)).toNat = 56 - 8 * i by omega]
    simp [IntKind.bits]; omega
  rw [h1, Int.fdiv_eq_ediv_of_nonneg _ (by have : (0 : Int) < 2 ^ (56 - 8 * i) := Int.pow_pos (by omega); omega), Int.natCast_ediv, Int.natCast_mul, Int.natCast_pow]
  rfl

set_option maxHeartbeats 1000000 in
set_option maxRecDepth 100000 in
theorem padded_any (A : Option Addr) (B c : Nat) (l : List UInt8) (w : World) (hx : Sl w B A 1 l.length (l.map bv)) (hl : l.length ≤ 1000000000) (hB : B ≤ w.heap.size) :
    Calls Tryd.prog 32 #[.slice A l.length c] w fun e w' =>
      ∃ v', e = .returned v' ∧ w'.ownsRow w.heap.size 5 1 v' (pad l).length ((pad l).map bv) ∧ Below w.heap.size w w' := by
  obtain ⟨i0, hi, hz0, hz1, hz2⟩ := info_parts Tryd.info5
  have HX := hideIt hx
  clear hx
  go_enter Tryd.func32, Tryd.ntmps32
  go_wp2_with (first
    | ((with_reducible refine at_append ?_); (refine wpList_app rfl (.tmp 6) (.tmp 7) 22 rfl w.heap.size 5 i0 (.int .u8 0) 1 1 Tryd.underlying22 hi hz0 hz1 hz2 rfl (by decide) _ 0 [] rfl (own_empty w _ _) _ _ l.length _ (l.map bv) rfl (HX.out.below ((Below.refl _ _).alloc hB _)) (bv_one _) (by unfold maxLen; omega) (by omega) (Nat.le_of_lt (by simp)) ?_; intro v1 w1 ho1 hb1; have HO1 := own_is (n' := l.length) (xs' := l.map bv) ho1 (Nat.zero_add _) rfl; have HB1 := hideIt (((Below.refl w.heap.size w).alloc (Nat.le_refl _) (.cells #[] 5)).trans hb1); clear ho1 hb1))
    | ((with_reducible refine at_append ?_); (refine wpList_app rfl (.tmp 9) (.tmp 10) 22 rfl w.heap.size 5 i0 (.int .u8 0) 1 1 Tryd.underlying22 hi hz0 hz1 hz2 rfl (by decide) _ l.length (l.map bv) rfl (own_kept HO1.out (below_new w1 _)) _ _ 1 _ [.int .u8 128] rfl (sl_one w1 _ _) (ones_one rfl) (by unfold maxLen; omega) (by omega) (Nat.le_trans HB1.out.size (below_new w1 _).size) ?_; intro v2 w2 ho2 hb2; have HO2 := own_is (n' := l.length + 1) (xs' := (l ++ [128]).map bv) ho2 rfl (by rw [List.map_append]; rfl); have HB2 := hideIt ((HB1.out.trans ((below_new w1 _).mono HB1.out.size)).trans hb2); clear ho2 hb2)))
  obtain ⟨w2', rfl⟩ : ∃ x, x = w2 := ⟨w2, rfl⟩
  go_loopg [3] (zs l.length) (fun g s3 wr => ∃ (k N : Nat), g + k = zs l.length ∧ Hid (N = l.length + 1 + k) ∧ N ≤ 2000000000 ∧ Hid (wr.ownsRow w.heap.size 5 1 s3 N ((l ++ 128 :: List.replicate k 0).map bv)) ∧ Hid (Below w.heap.size w wr))
  case atStart => exact ⟨0, l.length + 1, by omega, rfl, by omega, by simpa using HO2, HB2⟩
  case round =>
    obtain ⟨k, N, hg, HN, hN2, HO, HB⟩ := hrel
    obtain ⟨A3, c3, rfl, hc31, hc32⟩ := own_form HO.out
    by_cases hk : k < zs l.length
    · have hne : (((N : Int)) % 64 != 56) = true := by
        rw [bne_iff_ne]; have h1 := zs_mod l.length; have h2 := zs_lt l.length; have h3 := HN.out; unfold zs at *; omega
      go_wp2_with ((with_reducible refine at_append ?_); (refine wpList_app rfl (.tmp 16) (.tmp 17) 22 rfl w.heap.size 5 i0 (.int .u8 0) 1 1 Tryd.underlying22 hi hz0 hz1 hz2 rfl (by decide) _ N ((l ++ 128 :: List.replicate k 0).map bv) rfl (own_kept HO.out (below_new wr _)) _ _ 1 _ [.int .u8 0] rfl (sl_one wr _ _) (ones_one rfl) (by unfold maxLen; omega) (by omega) (Nat.le_trans HB.out.size (below_new wr _).size) ?_; intro v3 w3 ho3 hb3; have HO3 := own_is (n' := N + 1) (xs' := (l ++ 128 :: List.replicate (k + 1) 0).map bv) ho3 rfl (by rw [List.replicate_succ']; simp); have HB3 := hideIt ((HB.out.trans ((below_new wr _).mono HB.out.size)).trans hb3); clear ho3 hb3))
      go_roundg (gk - 1)
      case measure => omega
      case rel => exact ⟨k + 1, N + 1, by omega, by have := HN.out; show _ = _; omega, by have := HN.out; have := zs_lt l.length; omega, HO3, HB3⟩
    · have hkz : Hid (k = zs l.length) := by show k = zs l.length; omega
      have hne : (((N : Int)) % 64 != 56) = false := by
        rw [bne_eq_false_iff_eq]; have h1 := zs_mod l.length; have h3 := HN.out; have h4 := hkz.out; omega
      obtain ⟨P, hP⟩ : ∃ P, P = l ++ 128 :: List.replicate k 0 := ⟨_, rfl⟩
      rw [← hP] at HO
      have HP := hideIt hP
      clear hP
      obtain ⟨w4, rfl⟩ : ∃ x, x = wr := ⟨wr, rfl⟩
      go_wp2
      go_loopg [3, 5] 8 (fun g s3 s5 wr => ∃ (i : Nat), g + i = 8 ∧ s5 = .int .i64 i ∧ Hid (wr.ownsRow w.heap.size 5 1 s3 (N + i) ((P ++ (be8 (8 * l.length)).take i).map bv)) ∧ Hid (Below w.heap.size w wr))
      case atStart => exact ⟨0, rfl, rfl, by simpa using HO, HB⟩
      case round =>
        obtain ⟨i, hg2, rfl, HO5, HB5⟩ := hrel
        by_cases hi8 : i < 8
        · have hsh := shift56 l.length i (by omega) hi8
          obtain ⟨m, hm⟩ : ∃ m, m = 8 * l.length / 2 ^ (56 - 8 * i) := ⟨_, rfl⟩
          rw [← hm] at hsh
          have hcv := fun W => run_convert_low (P := Tryd.prog) W 88 5 (by kernel_rfl) Tryd.underlying5 m
          have hst : (be8 (8 * l.length)).take (i + 1) = (be8 (8 * l.length)).take i ++ [UInt8.ofNat m] := by rw [hm]; exact be8_at _ i hi8
          have HS := hideIt hst
          clear hst hm
          go_wp2_with ((with_reducible refine at_append ?_); (refine wpList_app rfl (.tmp 27) (.tmp 34) 22 rfl w.heap.size 5 i0 (.int .u8 0) 1 1 Tryd.underlying22 hi hz0 hz1 hz2 rfl (by decide) _ (N + i) ((P ++ (be8 (8 * l.length)).take i).map bv) rfl (own_kept HO5.out (below_new wr _)) _ _ 1 _ [.int .u8 ((m : Int) % 256)] rfl (sl_one wr _ _) (ones_one rfl) (by unfold maxLen; omega) (by omega) (Nat.le_trans HB5.out.size (below_new wr _).size) ?_; intro v6 w6 ho6 hb6; have HO6 := own_is (n' := N + (i + 1)) (xs' := (P ++ (be8 (8 * l.length)).take (i + 1)).map bv) ho6 rfl (by rw [HS.out, ← List.append_assoc]; exact map_snoc _ _ _ (byte_mod m)); have HB6 := hideIt ((HB5.out.trans ((below_new wr _).mono HB5.out.size)).trans hb6); clear ho6 hb6))
          go_roundg (gk - 1)
          case measure => omega
          case rel => exact ⟨i + 1, by omega, by go_num, HO6, HB6⟩
        · go_wp2
          go_ret
          have hi9 : i = 8 := by omega
          have h := HO5.out
          rw [hi9, show (be8 (8 * l.length)).take 8 = be8 (8 * l.length) from rfl, HP.out, hkz.out, show l ++ 128 :: List.replicate (zs l.length) 0 ++ be8 (8 * l.length) = pad l by simp [pad]] at h
          exact ⟨_, rfl, own_is h (by rw [pad_len]; have := HN.out; have := hkz.out; omega) rfl, HB5.out⟩

end Go.Proofs.YtkjnimcapjjfdaaDoor
