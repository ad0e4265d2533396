/-
  The reference of layer 3, walked: Feed, Extend, Of, Zeros, Combine.
-/
import Derived.Test.YtdnbnbnfbfdflaaDoorCrcZ
import Derived.OwnWalk
namespace Go.Proofs.YtdnbnbnfbfdflaaDoor
open Go.RowKit
set_option linter.unusedVariables false
attribute [local go_sem] eqGuard_wv binOp_add_wv binOp_and_wv binOp_or_wv binOp_xor_wv binOp_shr_wv binOp_shl_wv unary_xor_wv run_convert_wv run_store_wv run_storeCells_wv run_convert_bw

theorem itr_snoc (f : UInt32 → UInt32) : ∀ (k : Nat) (r : UInt32), itr f (k + 1) r = f (itr f k r)
  | 0, _ => rfl
  | k + 1, r => itr_snoc f k (f r)
theorem wv_zero_one (x : UInt32) (h : x = 0 ∨ x = 1) : (x = 0 ∧ wv x = .int .u32 0) ∨ (x = 1 ∧ wv x = .int .u32 1) := by
  rcases h with rfl | rfl
  · exact .inl ⟨rfl, rfl⟩
  · exact .inr ⟨rfl, rfl⟩

set_option maxHeartbeats 1000000 in
theorem refFeed_any (A : Option Addr) (B c : Nat) (r : UInt32) (l : List UInt8) (w : World) (hx : Sl w B A 1 l.length (l.map bv)) (hl : l.length ≤ 140737488355328) :
    Calls Tryd.prog 20 #[wv r, .slice A l.length c] w fun e w' => e = .returned (wv (feeds r l)) ∧ w = w' := by
  have HX := hideIt hx
  obtain ⟨z, hz⟩ : ∃ z, z = feeds r l := ⟨_, rfl⟩
  have HZ := hideIt hz
  rw [← hz]
  clear hx hz
  go_enter Tryd.func20, Tryd.ntmps20
  go_wp2
  go_loopg [0, 5] l.length (fun g s0 s5 wr => ∃ (k : Nat) (q : UInt32), g + k = l.length ∧ s5 = .int .i64 k ∧ s0 = wv q ∧ wr = w ∧ Aside (q = feeds r (l.take k)))
  case atStart => exact ⟨0, _, rfl, rfl, rfl, rfl, rfl⟩
  case round =>
    obtain ⟨k, q, hg, rfl, rfl, rfl, HQ⟩ := hrel
    by_cases hk : k < l.length
    · obtain ⟨b, off, rfl, _, hcell⟩ := HX.out.byte hk
      have HN : Hid (∀ y, y = fd q l[k] → y = feeds r (l.take (k + 1))) := by
        refine hideIt (fun y hy => ?_)
        rw [take_snoc l k hk, feeds_app, ← HQ.out, hy]; rfl
      generalize l[k] = x at *
      have hki : (k : Int) < (l.length : Int) := by omega
      obtain ⟨r1, hr1⟩ : ∃ y, y = q ^^^ x.toUInt32 := ⟨_, rfl⟩
      have hx1 : binOp .xor 23 (wv q) (.int .u32 ((x.toNat : Int) % 4294967296)) = pure (wv r1) := xor_byte _ q x r1 hr1
      have HN2 : Hid (itr stp 8 r1 = feeds r (l.take (k + 1))) := HN.out _ (by rw [hr1]; rfl)
      clear HN hr1
      obtain ⟨w2, rfl⟩ : ∃ x, x = wr := ⟨wr, rfl⟩
      obtain ⟨gz, rfl⟩ : ∃ x, x = gk := ⟨gk, rfl⟩
      go_wp2_with fail
      go_loopg [0, 6] 8 (fun g s0 s6 wr => ∃ (j : Nat) (y : UInt32), g + j = 8 ∧ s6 = .int .i64 j ∧ s0 = wv y ∧ wr = w2 ∧ Aside (y = itr stp j r1))
      case atStart => exact ⟨0, _, rfl, rfl, rfl, rfl, rfl⟩
      case round =>
        obtain ⟨j, y, hgj, rfl, rfl, rfl, HY⟩ := hrel
        by_cases hj : j < 8
        · have hji : (j : Int) < 8 := by omega
          have HJ : Hid (∀ v, v = stp y → v = itr stp (j + 1) r1) := hideIt (fun v hv => by rw [itr_snoc, ← HY.out, hv])
          have ha := and1_c 23 y
          have hp : ∀ v, binOp .xor 23 (wv v) (.int .u32 2197175160) = pure (wv (v ^^^ P0)) := fun v => xorP_c _ v
          rcases wv_zero_one _ (and_one y) with ⟨e1, e2⟩ | ⟨e1, e2⟩
          · have HV : Hid (shr y 1 = itr stp (j + 1) r1) := HJ.out _ (by unfold stp; rw [e1, if_neg (by decide)])
            clear HJ e1
            rw [e2] at ha
            go_wp2
            go_roundg (gk - 1)
            case measure => omega
            case rel => exact ⟨j + 1, _, by omega, by go_num, rfl, rfl, HV.out⟩
          · have HV : Hid (shr y 1 ^^^ P0 = itr stp (j + 1) r1) := HJ.out _ (by unfold stp; rw [e1, if_pos rfl])
            clear HJ e1
            rw [e2] at ha
            go_wp2
            go_roundg (gk - 1)
            case measure => omega
            case rel => exact ⟨j + 1, _, by omega, by go_num, rfl, rfl, HV.out⟩
        · have hji : ¬ (j : Int) < 8 := by omega
          obtain rfl : j = 8 := by omega
          have HE : Hid (y = feeds r (l.take (k + 1))) := HY.out.trans HN2.out
          go_wp2
          go_roundg (gz - 1)
          case measure => omega
          case rel => exact ⟨k + 1, _, by omega, by go_num, rfl, rfl, HE.out⟩
    · have HE : Hid (q = z) := by
        rw [HZ.out, HQ.out, List.take_of_length_le (by omega)]; exact rfl
      have hki : ¬ (k : Int) < (l.length : Int) := by omega
      go_wp2
      go_ret
      exact ⟨by rw [HE.out]; rfl, rfl⟩

set_option maxHeartbeats 400000 in
theorem refExtend_any (A : Option Addr) (B c : Nat) (r : UInt32) (l : List UInt8) (w : World) (hx : Sl w B A 1 l.length (l.map bv)) (hl : l.length ≤ 140737488355328) :
    Calls Tryd.prog 14 #[wv r, .slice A l.length c] w fun e w' => e = .returned (wv (ext r l)) ∧ w = w' := by
  have HE := hideIt (refFeed_any A B c (~~~ r) l w hx hl)
  obtain ⟨y, hy⟩ : ∃ y, y = feeds (~~~ r) l := ⟨_, rfl⟩
  have HZ : Hid (~~~ y = ext r l) := by rw [hy]; exact rfl
  rw [← hy] at HE
  rw [← HZ.out]
  clear hx hy HZ
  go_enter Tryd.func14, Tryd.ntmps14
  go_wp2_with (go_at_call 20; refine HE.out.mono ?_; rintro e w' ⟨rfl, rfl⟩)
  go_ret
  exact ⟨rfl, rfl⟩
set_option maxHeartbeats 400000 in
theorem refOf_any (A : Option Addr) (B c : Nat) (l : List UInt8) (w : World) (hx : Sl w B A 1 l.length (l.map bv)) (hl : l.length ≤ 140737488355328) :
    Calls Tryd.prog 12 #[.slice A l.length c] w fun e w' => e = .returned (wv (crc l)) ∧ w = w' := by
  have HE := hideIt (refExtend_any A B c 0 l w hx hl)
  clear hx
  go_enter Tryd.func12, Tryd.ntmps12
  go_wp2_with (go_at_call 14; refine HE.out.mono ?_; rintro e w' ⟨rfl, rfl⟩)
  go_ret
  exact ⟨rfl, rfl⟩
theorem made_sl {w : World} {base n : Nat} {e : TypeId} {g : Nat} (h : w.ownsRow base e 1 (.slice (some ⟨g, 0, none⟩) n n) n (madeCells (Value.int .u8 0).cells (n * 1)).toList) : Sl w w.heap.size (some ⟨g, 0, none⟩) 1 (List.replicate n (0 : UInt8)).length ((List.replicate n (0 : UInt8)).map bv) := by
  have h2 := Sl.of_own h
  rw [Nat.mul_one, show (madeCells (Value.int .u8 0).cells n).toList = List.replicate n (.int .u8 0) from toList_madeCells_one _ n] at h2
  rw [List.length_replicate, List.map_replicate]
  exact h2
theorem ext_zeros (c : UInt32) (n : Nat) : ext c (List.replicate n 0) = zro c n := by
  unfold ext zro
  rw [feeds_zeros]

set_option maxHeartbeats 400000 in
theorem refZeros_nat (c : UInt32) (n : Nat) (hn : n ≤ 2000) (w : World) :
    Calls Tryd.prog 16 #[wv c, .int .i64 (n : Int)] w fun e w' => e = .returned (wv (zro c n)) ∧ Below w.heap.size w w' := by
  obtain ⟨i0, hi, hz0, hz1, hz2⟩ := info_parts (show (Tryd.prog.info? 5).map (fun i => (i.zero, i.size, i.bytes)) = some (some (Value.int .u8 0), 1, 1) by kernel_rfl)
  have hni : ¬ ((n : Int) < 0) := by omega
  go_enter Tryd.func16, Tryd.ntmps16
  go_wp2_with ((with_reducible refine at_make ?_); refine wpList_make_full w rfl (.tmp 9) (.tmp 9) 22 rfl w.heap.size 5 i0 (.int .u8 0) 1 Tryd.underlying22 hi hz0 hz1 .i64 .i64 _ _ n rfl rfl rfl rfl (by rw [hz2]; omega) (by unfold maxLen; omega) (Nat.le_refl _) ?_; intro w1 hown hgr; have HS := hideIt (made_sl hown); have HL1 := hideIt ((Below.refl w.heap.size w).grown hgr (Nat.le_refl _) (by simp)); clear hown hgr)
  have HR := refExtend_any (some ⟨w.heap.size, 0, none⟩) w1.heap.size n c (List.replicate n 0) w1 HS.out (by rw [List.length_replicate]; omega)
  rw [ext_zeros, List.length_replicate] at HR
  refine HR.mono ?_
  rintro e w2 ⟨rfl, rfl⟩
  clear HR
  go_wp2
  go_ret
  exact ⟨rfl, HL1.out⟩
set_option maxHeartbeats 400000 in
theorem refZeros_neg (c : UInt32) (n : Int) (hn : n < 0) (w : World) :
    Calls Tryd.prog 16 #[wv c, .int .i64 n] w fun e w' => e = .returned (wv c) ∧ Below w.heap.size w w' := by
  go_enter Tryd.func16, Tryd.ntmps16
  go_wp2
  go_ret
  exact ⟨rfl, Below.refl _ _⟩
theorem zro_zero (c : UInt32) : zro c 0 = c := by
  show ~~~ (~~~ c) = c
  rw [not_is, not_is, xor_assoc, xor_self, xor_zero]
theorem refZeros_any (c : UInt32) (n : Int) (hn : n ≤ 2000) (w : World) :
    Calls Tryd.prog 16 #[wv c, .int .i64 n] w fun e w' => e = .returned (wv (zro c n.toNat)) ∧ Below w.heap.size w w' := by
  by_cases h : n < 0
  · rw [show n.toNat = 0 by omega, zro_zero]
    exact refZeros_neg c n h w
  · have := refZeros_nat c n.toNat (by omega) w
    rw [Int.toNat_of_nonneg (by omega)] at this
    exact this
theorem cmb_zro (a b : UInt32) (n : Nat) : b ^^^ zro a n ^^^ zro 0 n = cmb a b n := by
  unfold zro cmb zers
  rw [not_is (itr zer n (~~~ a)), not_is (itr zer n (~~~ 0)), not_is a, not_is 0, zer_lin.itr n a, zero_xor]
  generalize itr zer n a = p
  generalize itr zer n 4294967295 = q
  rw [xor_assoc, xor_assoc p, xor_assoc p, xor_self, xor_zero]

set_option maxHeartbeats 400000 in
theorem refComb_any (a b : UInt32) (n : Int) (hn : n ≤ 2000) (w : World) :
    Calls Tryd.prog 18 #[wv a, wv b, .int .i64 n] w fun e w' => e = .returned (wv (cmb a b n.toNat)) ∧ Below w.heap.size w w' := by
  have H1 := hideIt (refZeros_any a n hn w)
  have H2 := hideIt (fun W => refZeros_any 0 n hn W)
  have HC := hideIt (cmb_zro a b n.toNat)
  generalize zro a n.toNat = p at *
  generalize zro 0 n.toNat = q at *
  generalize cmb a b n.toNat = z at *
  have h0 : (.int .u32 0 : Value) = wv 0 := rfl
  clear hn
  go_enter Tryd.func18, Tryd.ntmps18
  go_wp2_with fail
  refine H1.out.mono ?_
  rintro e w1 ⟨rfl, hb⟩
  have HB1 := hideIt hb
  clear hb
  go_wp2_with fail
  refine (H2.out w1).mono ?_
  rintro e w2 ⟨rfl, hb⟩
  have HB2 := hideIt (HB1.out.trans (hb.mono HB1.out.size))
  clear hb
  go_wp2_with fail
  go_ret
  exact ⟨by rw [← HC.out]; rfl, HB2.out⟩

end Go.Proofs.YtdnbnbnfbfdflaaDoor
