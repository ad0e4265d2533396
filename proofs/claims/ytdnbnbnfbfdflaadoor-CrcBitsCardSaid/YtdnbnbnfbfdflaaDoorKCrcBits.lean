/-
  The walk of the law: Inverting one, two or three different bits of a string of at most 64 bytes changes its checksum.
-/
import Derived.Test.YtdnbnbnfbfdflaaDoorCrcS
import Derived.Test.YtdnbnbnfbfdflaaDoorCrcB
namespace Go.Proofs.YtdnbnbnfbfdflaaDoor.crcBits
open Go.RowKit
set_option linter.unusedVariables false
attribute [local go_sem] eqGuard_wv binOp_add_wv binOp_and_wv binOp_or_wv binOp_xor_wv binOp_shr_wv binOp_shl_wv unary_xor_wv run_convert_wv run_store_wv run_storeCells_wv run_convert_bw

set_option maxHeartbeats 1000000 in
set_option maxRecDepth 100000 in
theorem walk (A0 : Option Addr) (c0 : Nat) (l0 : List UInt8) (a1 : Int) (a2 : Int) (a3 : Int) (w : World) (x0 : Sl w w.heap.size A0 1 l0.length (l0.map bv)) (m0 : l0.length ≤ c0) (k0 : c0 ≤ maxLen) (s0 : l0.length ≤ 140737488351232) (w1 : -9223372036854775808 ≤ a1 ∧ a1 ≤ 9223372036854775807) (w2 : -9223372036854775808 ≤ a2 ∧ a2 ≤ 9223372036854775807) (w3 : -9223372036854775808 ≤ a3 ∧ a3 ≤ 9223372036854775807) (T1 : Tabs w) :
    Calls Tryd.prog 8 #[.slice A0 l0.length c0, .int .i64 a1, .int .i64 a2, .int .i64 a3] w fun e w' => e = .returned (.bool true) ∧ Below w.heap.size w w' := by
  have HT := hideIt T1
  have X0 := hideIt x0
  obtain ⟨i0, hi, hz0, hz1, hzb⟩ := info_parts (show (Tryd.prog.info? 5).map (fun i => (i.zero, i.size, i.bytes)) = some (some (Value.int .u8 0), 1, 1) by kernel_rfl)
  have HS0 := hideIt (sanity_any _ T1)
  have hw8 : IntKind.i64.wrap (8 * (l0.length : Int)) = 8 * (l0.length : Int) := IntWalk.i64_in _ (by omega)
  clear T1 x0
  by_cases h0 : (64 : Int) < (l0.length : Int)
  · clear hi hz0 hz1 hzb
    go_enter Tryd.func8, Tryd.ntmps8
    go_wp2_with (go_at_call 10; refine HS0.out.mono ?_; rintro e w' ⟨rfl, hb⟩; have HB := hideIt hb; clear hb)
    go_ret
    exact ⟨rfl, HB.out⟩
  by_cases h1 : a1 < 0
  · clear hi hz0 hz1 hzb
    go_enter Tryd.func8, Tryd.ntmps8
    go_wp2_with (go_at_call 10; refine HS0.out.mono ?_; rintro e w' ⟨rfl, hb⟩; have HB := hideIt hb; clear hb)
    go_ret
    exact ⟨rfl, HB.out⟩
  by_cases h2 : a2 < 0
  · clear hi hz0 hz1 hzb
    go_enter Tryd.func8, Tryd.ntmps8
    go_wp2_with (go_at_call 10; refine HS0.out.mono ?_; rintro e w' ⟨rfl, hb⟩; have HB := hideIt hb; clear hb)
    go_ret
    exact ⟨rfl, HB.out⟩
  by_cases h3 : a3 < 0
  · clear hi hz0 hz1 hzb
    go_enter Tryd.func8, Tryd.ntmps8
    go_wp2_with (go_at_call 10; refine HS0.out.mono ?_; rintro e w' ⟨rfl, hb⟩; have HB := hideIt hb; clear hb)
    go_ret
    exact ⟨rfl, HB.out⟩
  by_cases h4 : 8 * (l0.length : Int) ≤ a1
  · clear hi hz0 hz1 hzb
    go_enter Tryd.func8, Tryd.ntmps8
    go_wp2_with (go_at_call 10; refine HS0.out.mono ?_; rintro e w' ⟨rfl, hb⟩; have HB := hideIt hb; clear hb)
    go_ret
    exact ⟨rfl, HB.out⟩
  by_cases h5 : 8 * (l0.length : Int) ≤ a2
  · clear hi hz0 hz1 hzb
    go_enter Tryd.func8, Tryd.ntmps8
    go_wp2_with (go_at_call 10; refine HS0.out.mono ?_; rintro e w' ⟨rfl, hb⟩; have HB := hideIt hb; clear hb)
    go_ret
    exact ⟨rfl, HB.out⟩
  by_cases h6 : 8 * (l0.length : Int) ≤ a3
  · clear hi hz0 hz1 hzb
    go_enter Tryd.func8, Tryd.ntmps8
    go_wp2_with (go_at_call 10; refine HS0.out.mono ?_; rintro e w' ⟨rfl, hb⟩; have HB := hideIt hb; clear hb)
    go_ret
    exact ⟨rfl, HB.out⟩
  clear HS0
  have hl64 : l0.length ≤ 64 := by omega
  obtain ⟨x, rfl⟩ : ∃ x : Nat, a1 = (x : Int) := ⟨a1.toNat, by omega⟩
  obtain ⟨y, rfl⟩ : ∃ x : Nat, a2 = (x : Int) := ⟨a2.toNat, by omega⟩
  obtain ⟨z, rfl⟩ : ∃ x : Nat, a3 = (x : Int) := ⟨a3.toNat, by omega⟩
  have hx8 : x < 8 * l0.length := by omega
  have hy8 : y < 8 * l0.length := by omega
  have hz8 : z < 8 * l0.length := by omega
  have HX8 := hideIt hx8
  have HY8 := hideIt hy8
  have HZ8 := hideIt hz8
  have hlp : 0 < l0.length := by omega
  by_cases hyx : y = x
  · subst hyx
    by_cases hzx : z = y
    · subst hzx
      obtain ⟨qz, hqz⟩ : ∃ q, q = z / 8 := ⟨_, rfl⟩
      obtain ⟨rz, hrz⟩ : ∃ r, r = z % 8 := ⟨_, rfl⟩
      obtain ⟨ez, hez⟩ : ∃ e, e = UInt8.ofNat (2 ^ (z % 8)) := ⟨_, rfl⟩
      have hquoz : binOp .quo 3 (.int .i64 (z : Int)) (.int .i64 8) = pure (.int .i64 (qz : Int)) := by rw [hqz]; exact quo8_c _ z (by omega)
      have hremz : binOp .rem 3 (.int .i64 (z : Int)) (.int .i64 8) = pure (.int .i64 (rz : Int)) := by rw [hrz]; exact rem8_c _ z (by omega)
      have hshlz : binOp .shl 5 (.int .u8 1) (.int .i64 (rz : Int)) = pure (.int .u8 (ez.toNat : Int)) := by rw [hrz, hez]; exact shl1_c _ _ (Nat.mod_lt _ (by decide))
      have hqlz : qz < l0.length := by omega
      have hqiz : (qz : Int) < (l0.length : Int) := by omega
      have HQz := hideIt hqz
      have HEz := hideIt hez
      clear hqz hrz hez
      go_enter Tryd.func8, Tryd.ntmps8
      go_wp2_with ((with_reducible refine at_append ?_); refine wpList_app rfl (.tmp 45) (.tmp 46) 22 rfl w.heap.size 5 i0 (.int .u8 0) 1 1 Tryd.underlying22 hi hz0 hz1 hzb rfl (by decide) (.slice none 0 0) 0 [] rfl (World.ownsRow_nil _ _ _ _) _ _ l0.length _ (l0.map bv) rfl X0.out (bv_one _) (by unfold maxLen; omega) (by omega) (Nat.le_refl _) ?_; intro v2 w2 ho2 hb2; have HO2 := own_is (n' := l0.length) (xs' := l0.map bv) ho2 (Nat.zero_add _) rfl; have HB0 := hideIt hb2; clear ho2 hb2; obtain ⟨gb, cap, sp, rfl, hgb, hgc, hgm, _, hblk⟩ := own_bytes HO2.out (by omega); have HG0 := hideIt hblk; clear hblk)
      clear hi hz0 hz1 hzb HO2
      have hlq1 : qz < l0.length := by have := (rfl : l0.length = l0.length); omega
      have hc1 := row_byte HG0.out qz hlq1
      have HN1 : Hid (∀ u, u = l0[qz] ^^^ ez → l0.set qz u = xorL l0 (bitE l0.length z)) := hideIt (fun u hu => set_bit' l0 _ z qz ez u (rfl : l0.length = l0.length) HZ8.out HQz.out HEz.out hlq1 hu)
      generalize l0[qz] = y1 at *
      obtain ⟨u1, hu1⟩ : ∃ u, u = y1 ^^^ ez := ⟨_, rfl⟩
      have hxx1 : bits .xor .u8 (y1.toNat : Int) (ez.toNat : Int) = (u1.toNat : Int) := by rw [hu1]; exact xor_bv _ _
      have HM1 := hideIt (HN1.out u1 hu1)
      clear HN1 hu1
      refine still_tail 12 (by kernel_rfl) (by kernel_rfl) ?_
      intro w1a hw1a
      have qA1 : w1a.cell? ⟨gb, qz, none⟩ = some (bv y1) := by rw [hw1a]; exact hc1
      have HGa1 := hideIt (show Blk w1a gb 5 (l0.map bv ++ sp) by rw [hw1a]; exact HG0.out)
      have HBa1 := hideIt (show Below w.heap.size w w1a by rw [hw1a]; exact HB0.out.drew)
      have qF1 : w1a.frozen? ⟨gb, qz, none⟩ = false := HGa1.out.free qz
      clear hw1a hc1
      simp only [List.take_succ_cons, List.take_zero, List.drop_succ_cons, List.drop_zero]
      repeat still_step
      refine wpStill_nil ?_
      go_wp2_with fail
      obtain ⟨w1b, hw1b⟩ : ∃ W, W = w1a.setCell ⟨gb, qz, none⟩ (bv u1) := ⟨_, rfl⟩
      rw [← hw1b]
      obtain ⟨L1, hL1⟩ : ∃ L, L = l0.set qz u1 := ⟨_, rfl⟩
      have HG1 := hideIt (show Blk w1b gb 5 (L1.map bv ++ sp) by rw [hw1b, hL1, ← set_byte _ _ _ _ hlq1]; exact HGa1.out.store qz _)
      have HB1 := hideIt (show Below w.heap.size w w1b by rw [hw1b]; exact HBa1.out.setCell (p := ⟨gb, qz, none⟩) hgb _)
      have HL1 := hideIt (show L1.length = l0.length by rw [hL1]; exact List.length_set.trans (rfl : l0.length = l0.length))
      have HD1 := hideIt (show L1 = xorL l0 (bitE l0.length z) by rw [hL1]; exact HM1.out)
      clear hw1b hL1 qA1 qF1 hxx1 hlq1 HM1 HGa1 HBa1
      have hne : crc L1 ≠ crc l0 := by
        rw [HD1.out]
        exact one_bit l0 z HZ8.out
      have hsl := row_sl HG1.out
      have hLl := HL1.out
      have HS := hideIt (sanity_any w1b (HT.out.keep HB1.out))
      have C1 := hideIt (fun (W : World) (hb : Below w1b.heap.size w1b W) => of_any (some ⟨gb, 0, none⟩) w1b.heap.size cap L1 W (hsl.below hb) (by omega) ((HT.out.keep HB1.out).keep hb))
      have C2 := hideIt (fun (W : World) (hb : Below w1b.heap.size w1b W) => of_any A0 w1b.heap.size c0 l0 W (((X0.out.below HB1.out).wide HB1.out.size).below hb) (by omega) ((HT.out.keep HB1.out).keep hb))
      rw [hLl] at C1
      have hnq := neq_c 23 _ _ hne
      generalize crc L1 = z1 at *
      generalize crc l0 = z2 at *
      clear hsl hLl hne
      go_wp2_with fail
      refine HS.out.mono ?_
      rintro e w3 ⟨rfl, hb⟩
      have HBZ := hideIt hb
      clear hb
      go_wp2_with fail
      refine (C1.out _ HBZ.out).mono ?_
      rintro e w' ⟨rfl, rfl⟩
      go_wp2_with fail
      refine (C2.out _ HBZ.out).mono ?_
      rintro e w' ⟨rfl, rfl⟩
      go_wp2_with fail
      go_ret
      exact ⟨rfl, HB1.out.trans (HBZ.out.mono HB1.out.size)⟩
    · have HNE := hideIt hzx
      have nzx : ¬ (z : Int) = (y : Int) := by omega
      obtain ⟨qy, hqy⟩ : ∃ q, q = y / 8 := ⟨_, rfl⟩
      obtain ⟨ry, hry⟩ : ∃ r, r = y % 8 := ⟨_, rfl⟩
      obtain ⟨ey, hey⟩ : ∃ e, e = UInt8.ofNat (2 ^ (y % 8)) := ⟨_, rfl⟩
      have hquoy : binOp .quo 3 (.int .i64 (y : Int)) (.int .i64 8) = pure (.int .i64 (qy : Int)) := by rw [hqy]; exact quo8_c _ y (by omega)
      have hremy : binOp .rem 3 (.int .i64 (y : Int)) (.int .i64 8) = pure (.int .i64 (ry : Int)) := by rw [hry]; exact rem8_c _ y (by omega)
      have hshly : binOp .shl 5 (.int .u8 1) (.int .i64 (ry : Int)) = pure (.int .u8 (ey.toNat : Int)) := by rw [hry, hey]; exact shl1_c _ _ (Nat.mod_lt _ (by decide))
      have hqly : qy < l0.length := by omega
      have hqiy : (qy : Int) < (l0.length : Int) := by omega
      have HQy := hideIt hqy
      have HEy := hideIt hey
      clear hqy hry hey
      obtain ⟨qz, hqz⟩ : ∃ q, q = z / 8 := ⟨_, rfl⟩
      obtain ⟨rz, hrz⟩ : ∃ r, r = z % 8 := ⟨_, rfl⟩
      obtain ⟨ez, hez⟩ : ∃ e, e = UInt8.ofNat (2 ^ (z % 8)) := ⟨_, rfl⟩
      have hquoz : binOp .quo 3 (.int .i64 (z : Int)) (.int .i64 8) = pure (.int .i64 (qz : Int)) := by rw [hqz]; exact quo8_c _ z (by omega)
      have hremz : binOp .rem 3 (.int .i64 (z : Int)) (.int .i64 8) = pure (.int .i64 (rz : Int)) := by rw [hrz]; exact rem8_c _ z (by omega)
      have hshlz : binOp .shl 5 (.int .u8 1) (.int .i64 (rz : Int)) = pure (.int .u8 (ez.toNat : Int)) := by rw [hrz, hez]; exact shl1_c _ _ (Nat.mod_lt _ (by decide))
      have hqlz : qz < l0.length := by omega
      have hqiz : (qz : Int) < (l0.length : Int) := by omega
      have HQz := hideIt hqz
      have HEz := hideIt hez
      clear hqz hrz hez
      go_enter Tryd.func8, Tryd.ntmps8
      go_wp2_with ((with_reducible refine at_append ?_); refine wpList_app rfl (.tmp 45) (.tmp 46) 22 rfl w.heap.size 5 i0 (.int .u8 0) 1 1 Tryd.underlying22 hi hz0 hz1 hzb rfl (by decide) (.slice none 0 0) 0 [] rfl (World.ownsRow_nil _ _ _ _) _ _ l0.length _ (l0.map bv) rfl X0.out (bv_one _) (by unfold maxLen; omega) (by omega) (Nat.le_refl _) ?_; intro v2 w2 ho2 hb2; have HO2 := own_is (n' := l0.length) (xs' := l0.map bv) ho2 (Nat.zero_add _) rfl; have HB0 := hideIt hb2; clear ho2 hb2; obtain ⟨gb, cap, sp, rfl, hgb, hgc, hgm, _, hblk⟩ := own_bytes HO2.out (by omega); have HG0 := hideIt hblk; clear hblk)
      clear hi hz0 hz1 hzb HO2
      have hlq1 : qy < l0.length := by have := (rfl : l0.length = l0.length); omega
      have hc1 := row_byte HG0.out qy hlq1
      have HN1 : Hid (∀ u, u = l0[qy] ^^^ ey → l0.set qy u = xorL l0 (bitE l0.length y)) := hideIt (fun u hu => set_bit' l0 _ y qy ey u (rfl : l0.length = l0.length) HY8.out HQy.out HEy.out hlq1 hu)
      generalize l0[qy] = y1 at *
      obtain ⟨u1, hu1⟩ : ∃ u, u = y1 ^^^ ey := ⟨_, rfl⟩
      have hxx1 : bits .xor .u8 (y1.toNat : Int) (ey.toNat : Int) = (u1.toNat : Int) := by rw [hu1]; exact xor_bv _ _
      have HM1 := hideIt (HN1.out u1 hu1)
      clear HN1 hu1
      refine still_tail 12 (by kernel_rfl) (by kernel_rfl) ?_
      intro w1a hw1a
      have qA1 : w1a.cell? ⟨gb, qy, none⟩ = some (bv y1) := by rw [hw1a]; exact hc1
      have HGa1 := hideIt (show Blk w1a gb 5 (l0.map bv ++ sp) by rw [hw1a]; exact HG0.out)
      have HBa1 := hideIt (show Below w.heap.size w w1a by rw [hw1a]; exact HB0.out.drew)
      have qF1 : w1a.frozen? ⟨gb, qy, none⟩ = false := HGa1.out.free qy
      clear hw1a hc1
      simp only [List.take_succ_cons, List.take_zero, List.drop_succ_cons, List.drop_zero]
      repeat still_step
      refine wpStill_nil ?_
      go_wp2_with fail
      obtain ⟨w1b, hw1b⟩ : ∃ W, W = w1a.setCell ⟨gb, qy, none⟩ (bv u1) := ⟨_, rfl⟩
      rw [← hw1b]
      obtain ⟨L1, hL1⟩ : ∃ L, L = l0.set qy u1 := ⟨_, rfl⟩
      have HG1 := hideIt (show Blk w1b gb 5 (L1.map bv ++ sp) by rw [hw1b, hL1, ← set_byte _ _ _ _ hlq1]; exact HGa1.out.store qy _)
      have HB1 := hideIt (show Below w.heap.size w w1b by rw [hw1b]; exact HBa1.out.setCell (p := ⟨gb, qy, none⟩) hgb _)
      have HL1 := hideIt (show L1.length = l0.length by rw [hL1]; exact List.length_set.trans (rfl : l0.length = l0.length))
      have HD1 := hideIt (show L1 = xorL l0 (bitE l0.length y) by rw [hL1]; exact HM1.out)
      clear hw1b hL1 qA1 qF1 hxx1 hlq1 HM1 HGa1 HBa1
      have hlq2 : qz < L1.length := by have := HL1.out; omega
      have hc2 := row_byte HG1.out qz hlq2
      have HN2 : Hid (∀ u, u = L1[qz] ^^^ ez → L1.set qz u = xorL L1 (bitE l0.length z)) := hideIt (fun u hu => set_bit' L1 _ z qz ez u HL1.out HZ8.out HQz.out HEz.out hlq2 hu)
      generalize L1[qz] = y2 at *
      obtain ⟨u2, hu2⟩ : ∃ u, u = y2 ^^^ ez := ⟨_, rfl⟩
      have hxx2 : bits .xor .u8 (y2.toNat : Int) (ez.toNat : Int) = (u2.toNat : Int) := by rw [hu2]; exact xor_bv _ _
      have HM2 := hideIt (HN2.out u2 hu2)
      clear HN2 hu2
      refine still_tail 12 (by kernel_rfl) (by kernel_rfl) ?_
      intro w2a hw2a
      have qA2 : w2a.cell? ⟨gb, qz, none⟩ = some (bv y2) := by rw [hw2a]; exact hc2
      have HGa2 := hideIt (show Blk w2a gb 5 (L1.map bv ++ sp) by rw [hw2a]; exact HG1.out)
      have HBa2 := hideIt (show Below w.heap.size w w2a by rw [hw2a]; exact HB1.out.drew)
      have qF2 : w2a.frozen? ⟨gb, qz, none⟩ = false := HGa2.out.free qz
      clear hw2a hc2
      simp only [List.take_succ_cons, List.take_zero, List.drop_succ_cons, List.drop_zero]
      repeat still_step
      refine wpStill_nil ?_
      go_wp2_with fail
      obtain ⟨w2b, hw2b⟩ : ∃ W, W = w2a.setCell ⟨gb, qz, none⟩ (bv u2) := ⟨_, rfl⟩
      rw [← hw2b]
      obtain ⟨L2, hL2⟩ : ∃ L, L = L1.set qz u2 := ⟨_, rfl⟩
      have HG2 := hideIt (show Blk w2b gb 5 (L2.map bv ++ sp) by rw [hw2b, hL2, ← set_byte _ _ _ _ hlq2]; exact HGa2.out.store qz _)
      have HB2 := hideIt (show Below w.heap.size w w2b by rw [hw2b]; exact HBa2.out.setCell (p := ⟨gb, qz, none⟩) hgb _)
      have HL2 := hideIt (show L2.length = l0.length by rw [hL2]; exact List.length_set.trans HL1.out)
      have HD2 := hideIt (show L2 = xorL L1 (bitE l0.length z) by rw [hL2]; exact HM2.out)
      clear hw2b hL2 qA2 qF2 hxx2 hlq2 HM2 HGa2 HBa2
      have hne : crc L2 ≠ crc l0 := by
        rw [HD2.out, HD1.out]
        exact two_bit l0 y z hl64 HY8.out HZ8.out (fun h => HNE.out h.symm)
      have hsl := row_sl HG2.out
      have hLl := HL2.out
      have HS := hideIt (sanity_any w2b (HT.out.keep HB2.out))
      have C1 := hideIt (fun (W : World) (hb : Below w2b.heap.size w2b W) => of_any (some ⟨gb, 0, none⟩) w2b.heap.size cap L2 W (hsl.below hb) (by omega) ((HT.out.keep HB2.out).keep hb))
      have C2 := hideIt (fun (W : World) (hb : Below w2b.heap.size w2b W) => of_any A0 w2b.heap.size c0 l0 W (((X0.out.below HB2.out).wide HB2.out.size).below hb) (by omega) ((HT.out.keep HB2.out).keep hb))
      rw [hLl] at C1
      have hnq := neq_c 23 _ _ hne
      generalize crc L2 = z1 at *
      generalize crc l0 = z2 at *
      clear hsl hLl hne
      go_wp2_with fail
      refine HS.out.mono ?_
      rintro e w3 ⟨rfl, hb⟩
      have HBZ := hideIt hb
      clear hb
      go_wp2_with fail
      refine (C1.out _ HBZ.out).mono ?_
      rintro e w' ⟨rfl, rfl⟩
      go_wp2_with fail
      refine (C2.out _ HBZ.out).mono ?_
      rintro e w' ⟨rfl, rfl⟩
      go_wp2_with fail
      go_ret
      exact ⟨rfl, HB2.out.trans (HBZ.out.mono HB2.out.size)⟩
  · have HNE := hideIt hyx
    have nyx : ((y : Int) != (x : Int)) = true := by rw [bne_iff_ne]; omega
    by_cases hzx : z = x
    · subst hzx
      obtain ⟨qz, hqz⟩ : ∃ q, q = z / 8 := ⟨_, rfl⟩
      obtain ⟨rz, hrz⟩ : ∃ r, r = z % 8 := ⟨_, rfl⟩
      obtain ⟨ez, hez⟩ : ∃ e, e = UInt8.ofNat (2 ^ (z % 8)) := ⟨_, rfl⟩
      have hquoz : binOp .quo 3 (.int .i64 (z : Int)) (.int .i64 8) = pure (.int .i64 (qz : Int)) := by rw [hqz]; exact quo8_c _ z (by omega)
      have hremz : binOp .rem 3 (.int .i64 (z : Int)) (.int .i64 8) = pure (.int .i64 (rz : Int)) := by rw [hrz]; exact rem8_c _ z (by omega)
      have hshlz : binOp .shl 5 (.int .u8 1) (.int .i64 (rz : Int)) = pure (.int .u8 (ez.toNat : Int)) := by rw [hrz, hez]; exact shl1_c _ _ (Nat.mod_lt _ (by decide))
      have hqlz : qz < l0.length := by omega
      have hqiz : (qz : Int) < (l0.length : Int) := by omega
      have HQz := hideIt hqz
      have HEz := hideIt hez
      clear hqz hrz hez
      obtain ⟨qy, hqy⟩ : ∃ q, q = y / 8 := ⟨_, rfl⟩
      obtain ⟨ry, hry⟩ : ∃ r, r = y % 8 := ⟨_, rfl⟩
      obtain ⟨ey, hey⟩ : ∃ e, e = UInt8.ofNat (2 ^ (y % 8)) := ⟨_, rfl⟩
      have hquoy : binOp .quo 3 (.int .i64 (y : Int)) (.int .i64 8) = pure (.int .i64 (qy : Int)) := by rw [hqy]; exact quo8_c _ y (by omega)
      have hremy : binOp .rem 3 (.int .i64 (y : Int)) (.int .i64 8) = pure (.int .i64 (ry : Int)) := by rw [hry]; exact rem8_c _ y (by omega)
      have hshly : binOp .shl 5 (.int .u8 1) (.int .i64 (ry : Int)) = pure (.int .u8 (ey.toNat : Int)) := by rw [hry, hey]; exact shl1_c _ _ (Nat.mod_lt _ (by decide))
      have hqly : qy < l0.length := by omega
      have hqiy : (qy : Int) < (l0.length : Int) := by omega
      have HQy := hideIt hqy
      have HEy := hideIt hey
      clear hqy hry hey
      go_enter Tryd.func8, Tryd.ntmps8
      go_wp2_with ((with_reducible refine at_append ?_); refine wpList_app rfl (.tmp 45) (.tmp 46) 22 rfl w.heap.size 5 i0 (.int .u8 0) 1 1 Tryd.underlying22 hi hz0 hz1 hzb rfl (by decide) (.slice none 0 0) 0 [] rfl (World.ownsRow_nil _ _ _ _) _ _ l0.length _ (l0.map bv) rfl X0.out (bv_one _) (by unfold maxLen; omega) (by omega) (Nat.le_refl _) ?_; intro v2 w2 ho2 hb2; have HO2 := own_is (n' := l0.length) (xs' := l0.map bv) ho2 (Nat.zero_add _) rfl; have HB0 := hideIt hb2; clear ho2 hb2; obtain ⟨gb, cap, sp, rfl, hgb, hgc, hgm, _, hblk⟩ := own_bytes HO2.out (by omega); have HG0 := hideIt hblk; clear hblk)
      clear hi hz0 hz1 hzb HO2
      have hlq1 : qz < l0.length := by have := (rfl : l0.length = l0.length); omega
      have hc1 := row_byte HG0.out qz hlq1
      have HN1 : Hid (∀ u, u = l0[qz] ^^^ ez → l0.set qz u = xorL l0 (bitE l0.length z)) := hideIt (fun u hu => set_bit' l0 _ z qz ez u (rfl : l0.length = l0.length) HZ8.out HQz.out HEz.out hlq1 hu)
      generalize l0[qz] = y1 at *
      obtain ⟨u1, hu1⟩ : ∃ u, u = y1 ^^^ ez := ⟨_, rfl⟩
      have hxx1 : bits .xor .u8 (y1.toNat : Int) (ez.toNat : Int) = (u1.toNat : Int) := by rw [hu1]; exact xor_bv _ _
      have HM1 := hideIt (HN1.out u1 hu1)
      clear HN1 hu1
      refine still_tail 12 (by kernel_rfl) (by kernel_rfl) ?_
      intro w1a hw1a
      have qA1 : w1a.cell? ⟨gb, qz, none⟩ = some (bv y1) := by rw [hw1a]; exact hc1
      have HGa1 := hideIt (show Blk w1a gb 5 (l0.map bv ++ sp) by rw [hw1a]; exact HG0.out)
      have HBa1 := hideIt (show Below w.heap.size w w1a by rw [hw1a]; exact HB0.out.drew)
      have qF1 : w1a.frozen? ⟨gb, qz, none⟩ = false := HGa1.out.free qz
      clear hw1a hc1
      simp only [List.take_succ_cons, List.take_zero, List.drop_succ_cons, List.drop_zero]
      repeat still_step
      refine wpStill_nil ?_
      go_wp2_with fail
      obtain ⟨w1b, hw1b⟩ : ∃ W, W = w1a.setCell ⟨gb, qz, none⟩ (bv u1) := ⟨_, rfl⟩
      rw [← hw1b]
      obtain ⟨L1, hL1⟩ : ∃ L, L = l0.set qz u1 := ⟨_, rfl⟩
      have HG1 := hideIt (show Blk w1b gb 5 (L1.map bv ++ sp) by rw [hw1b, hL1, ← set_byte _ _ _ _ hlq1]; exact HGa1.out.store qz _)
      have HB1 := hideIt (show Below w.heap.size w w1b by rw [hw1b]; exact HBa1.out.setCell (p := ⟨gb, qz, none⟩) hgb _)
      have HL1 := hideIt (show L1.length = l0.length by rw [hL1]; exact List.length_set.trans (rfl : l0.length = l0.length))
      have HD1 := hideIt (show L1 = xorL l0 (bitE l0.length z) by rw [hL1]; exact HM1.out)
      clear hw1b hL1 qA1 qF1 hxx1 hlq1 HM1 HGa1 HBa1
      have hlq2 : qy < L1.length := by have := HL1.out; omega
      have hc2 := row_byte HG1.out qy hlq2
      have HN2 : Hid (∀ u, u = L1[qy] ^^^ ey → L1.set qy u = xorL L1 (bitE l0.length y)) := hideIt (fun u hu => set_bit' L1 _ y qy ey u HL1.out HY8.out HQy.out HEy.out hlq2 hu)
      generalize L1[qy] = y2 at *
      obtain ⟨u2, hu2⟩ : ∃ u, u = y2 ^^^ ey := ⟨_, rfl⟩
      have hxx2 : bits .xor .u8 (y2.toNat : Int) (ey.toNat : Int) = (u2.toNat : Int) := by rw [hu2]; exact xor_bv _ _
      have HM2 := hideIt (HN2.out u2 hu2)
      clear HN2 hu2
      refine still_tail 12 (by kernel_rfl) (by kernel_rfl) ?_
      intro w2a hw2a
      have qA2 : w2a.cell? ⟨gb, qy, none⟩ = some (bv y2) := by rw [hw2a]; exact hc2
      have HGa2 := hideIt (show Blk w2a gb 5 (L1.map bv ++ sp) by rw [hw2a]; exact HG1.out)
      have HBa2 := hideIt (show Below w.heap.size w w2a by rw [hw2a]; exact HB1.out.drew)
      have qF2 : w2a.frozen? ⟨gb, qy, none⟩ = false := HGa2.out.free qy
      clear hw2a hc2
      simp only [List.take_succ_cons, List.take_zero, List.drop_succ_cons, List.drop_zero]
      repeat still_step
      refine wpStill_nil ?_
      go_wp2_with fail
      obtain ⟨w2b, hw2b⟩ : ∃ W, W = w2a.setCell ⟨gb, qy, none⟩ (bv u2) := ⟨_, rfl⟩
      rw [← hw2b]
      obtain ⟨L2, hL2⟩ : ∃ L, L = L1.set qy u2 := ⟨_, rfl⟩
      have HG2 := hideIt (show Blk w2b gb 5 (L2.map bv ++ sp) by rw [hw2b, hL2, ← set_byte _ _ _ _ hlq2]; exact HGa2.out.store qy _)
      have HB2 := hideIt (show Below w.heap.size w w2b by rw [hw2b]; exact HBa2.out.setCell (p := ⟨gb, qy, none⟩) hgb _)
      have HL2 := hideIt (show L2.length = l0.length by rw [hL2]; exact List.length_set.trans HL1.out)
      have HD2 := hideIt (show L2 = xorL L1 (bitE l0.length y) by rw [hL2]; exact HM2.out)
      clear hw2b hL2 qA2 qF2 hxx2 hlq2 HM2 HGa2 HBa2
      have hne : crc L2 ≠ crc l0 := by
        rw [HD2.out, HD1.out]
        exact two_bit l0 z y hl64 HZ8.out HY8.out (fun h => HNE.out h.symm)
      have hsl := row_sl HG2.out
      have hLl := HL2.out
      have HS := hideIt (sanity_any w2b (HT.out.keep HB2.out))
      have C1 := hideIt (fun (W : World) (hb : Below w2b.heap.size w2b W) => of_any (some ⟨gb, 0, none⟩) w2b.heap.size cap L2 W (hsl.below hb) (by omega) ((HT.out.keep HB2.out).keep hb))
      have C2 := hideIt (fun (W : World) (hb : Below w2b.heap.size w2b W) => of_any A0 w2b.heap.size c0 l0 W (((X0.out.below HB2.out).wide HB2.out.size).below hb) (by omega) ((HT.out.keep HB2.out).keep hb))
      rw [hLl] at C1
      have hnq := neq_c 23 _ _ hne
      generalize crc L2 = z1 at *
      generalize crc l0 = z2 at *
      clear hsl hLl hne
      go_wp2_with fail
      refine HS.out.mono ?_
      rintro e w3 ⟨rfl, hb⟩
      have HBZ := hideIt hb
      clear hb
      go_wp2_with fail
      refine (C1.out _ HBZ.out).mono ?_
      rintro e w' ⟨rfl, rfl⟩
      go_wp2_with fail
      refine (C2.out _ HBZ.out).mono ?_
      rintro e w' ⟨rfl, rfl⟩
      go_wp2_with fail
      go_ret
      exact ⟨rfl, HB2.out.trans (HBZ.out.mono HB2.out.size)⟩
    · have nzx : ((z : Int) != (x : Int)) = true := by rw [bne_iff_ne]; omega
      by_cases hzy : z = y
      · subst hzy
        obtain ⟨qx, hqx⟩ : ∃ q, q = x / 8 := ⟨_, rfl⟩
        obtain ⟨rx, hrx⟩ : ∃ r, r = x % 8 := ⟨_, rfl⟩
        obtain ⟨ex, hex⟩ : ∃ e, e = UInt8.ofNat (2 ^ (x % 8)) := ⟨_, rfl⟩
        have hquox : binOp .quo 3 (.int .i64 (x : Int)) (.int .i64 8) = pure (.int .i64 (qx : Int)) := by rw [hqx]; exact quo8_c _ x (by omega)
        have hremx : binOp .rem 3 (.int .i64 (x : Int)) (.int .i64 8) = pure (.int .i64 (rx : Int)) := by rw [hrx]; exact rem8_c _ x (by omega)
        have hshlx : binOp .shl 5 (.int .u8 1) (.int .i64 (rx : Int)) = pure (.int .u8 (ex.toNat : Int)) := by rw [hrx, hex]; exact shl1_c _ _ (Nat.mod_lt _ (by decide))
        have hqlx : qx < l0.length := by omega
        have hqix : (qx : Int) < (l0.length : Int) := by omega
        have HQx := hideIt hqx
        have HEx := hideIt hex
        clear hqx hrx hex
        obtain ⟨qz, hqz⟩ : ∃ q, q = z / 8 := ⟨_, rfl⟩
        obtain ⟨rz, hrz⟩ : ∃ r, r = z % 8 := ⟨_, rfl⟩
        obtain ⟨ez, hez⟩ : ∃ e, e = UInt8.ofNat (2 ^ (z % 8)) := ⟨_, rfl⟩
        have hquoz : binOp .quo 3 (.int .i64 (z : Int)) (.int .i64 8) = pure (.int .i64 (qz : Int)) := by rw [hqz]; exact quo8_c _ z (by omega)
        have hremz : binOp .rem 3 (.int .i64 (z : Int)) (.int .i64 8) = pure (.int .i64 (rz : Int)) := by rw [hrz]; exact rem8_c _ z (by omega)
        have hshlz : binOp .shl 5 (.int .u8 1) (.int .i64 (rz : Int)) = pure (.int .u8 (ez.toNat : Int)) := by rw [hrz, hez]; exact shl1_c _ _ (Nat.mod_lt _ (by decide))
        have hqlz : qz < l0.length := by omega
        have hqiz : (qz : Int) < (l0.length : Int) := by omega
        have HQz := hideIt hqz
        have HEz := hideIt hez
        clear hqz hrz hez
        go_enter Tryd.func8, Tryd.ntmps8
        go_wp2_with ((with_reducible refine at_append ?_); refine wpList_app rfl (.tmp 45) (.tmp 46) 22 rfl w.heap.size 5 i0 (.int .u8 0) 1 1 Tryd.underlying22 hi hz0 hz1 hzb rfl (by decide) (.slice none 0 0) 0 [] rfl (World.ownsRow_nil _ _ _ _) _ _ l0.length _ (l0.map bv) rfl X0.out (bv_one _) (by unfold maxLen; omega) (by omega) (Nat.le_refl _) ?_; intro v2 w2 ho2 hb2; have HO2 := own_is (n' := l0.length) (xs' := l0.map bv) ho2 (Nat.zero_add _) rfl; have HB0 := hideIt hb2; clear ho2 hb2; obtain ⟨gb, cap, sp, rfl, hgb, hgc, hgm, _, hblk⟩ := own_bytes HO2.out (by omega); have HG0 := hideIt hblk; clear hblk)
        clear hi hz0 hz1 hzb HO2
        have hlq1 : qx < l0.length := by have := (rfl : l0.length = l0.length); omega
        have hc1 := row_byte HG0.out qx hlq1
        have HN1 : Hid (∀ u, u = l0[qx] ^^^ ex → l0.set qx u = xorL l0 (bitE l0.length x)) := hideIt (fun u hu => set_bit' l0 _ x qx ex u (rfl : l0.length = l0.length) HX8.out HQx.out HEx.out hlq1 hu)
        generalize l0[qx] = y1 at *
        obtain ⟨u1, hu1⟩ : ∃ u, u = y1 ^^^ ex := ⟨_, rfl⟩
        have hxx1 : bits .xor .u8 (y1.toNat : Int) (ex.toNat : Int) = (u1.toNat : Int) := by rw [hu1]; exact xor_bv _ _
        have HM1 := hideIt (HN1.out u1 hu1)
        clear HN1 hu1
        refine still_tail 12 (by kernel_rfl) (by kernel_rfl) ?_
        intro w1a hw1a
        have qA1 : w1a.cell? ⟨gb, qx, none⟩ = some (bv y1) := by rw [hw1a]; exact hc1
        have HGa1 := hideIt (show Blk w1a gb 5 (l0.map bv ++ sp) by rw [hw1a]; exact HG0.out)
        have HBa1 := hideIt (show Below w.heap.size w w1a by rw [hw1a]; exact HB0.out.drew)
        have qF1 : w1a.frozen? ⟨gb, qx, none⟩ = false := HGa1.out.free qx
        clear hw1a hc1
        simp only [List.take_succ_cons, List.take_zero, List.drop_succ_cons, List.drop_zero]
        repeat still_step
        refine wpStill_nil ?_
        go_wp2_with fail
        obtain ⟨w1b, hw1b⟩ : ∃ W, W = w1a.setCell ⟨gb, qx, none⟩ (bv u1) := ⟨_, rfl⟩
        rw [← hw1b]
        obtain ⟨L1, hL1⟩ : ∃ L, L = l0.set qx u1 := ⟨_, rfl⟩
        have HG1 := hideIt (show Blk w1b gb 5 (L1.map bv ++ sp) by rw [hw1b, hL1, ← set_byte _ _ _ _ hlq1]; exact HGa1.out.store qx _)
        have HB1 := hideIt (show Below w.heap.size w w1b by rw [hw1b]; exact HBa1.out.setCell (p := ⟨gb, qx, none⟩) hgb _)
        have HL1 := hideIt (show L1.length = l0.length by rw [hL1]; exact List.length_set.trans (rfl : l0.length = l0.length))
        have HD1 := hideIt (show L1 = xorL l0 (bitE l0.length x) by rw [hL1]; exact HM1.out)
        clear hw1b hL1 qA1 qF1 hxx1 hlq1 HM1 HGa1 HBa1
        have hlq2 : qz < L1.length := by have := HL1.out; omega
        have hc2 := row_byte HG1.out qz hlq2
        have HN2 : Hid (∀ u, u = L1[qz] ^^^ ez → L1.set qz u = xorL L1 (bitE l0.length z)) := hideIt (fun u hu => set_bit' L1 _ z qz ez u HL1.out HZ8.out HQz.out HEz.out hlq2 hu)
        generalize L1[qz] = y2 at *
        obtain ⟨u2, hu2⟩ : ∃ u, u = y2 ^^^ ez := ⟨_, rfl⟩
        have hxx2 : bits .xor .u8 (y2.toNat : Int) (ez.toNat : Int) = (u2.toNat : Int) := by rw [hu2]; exact xor_bv _ _
        have HM2 := hideIt (HN2.out u2 hu2)
        clear HN2 hu2
        refine still_tail 12 (by kernel_rfl) (by kernel_rfl) ?_
        intro w2a hw2a
        have qA2 : w2a.cell? ⟨gb, qz, none⟩ = some (bv y2) := by rw [hw2a]; exact hc2
        have HGa2 := hideIt (show Blk w2a gb 5 (L1.map bv ++ sp) by rw [hw2a]; exact HG1.out)
        have HBa2 := hideIt (show Below w.heap.size w w2a by rw [hw2a]; exact HB1.out.drew)
        have qF2 : w2a.frozen? ⟨gb, qz, none⟩ = false := HGa2.out.free qz
        clear hw2a hc2
        simp only [List.take_succ_cons, List.take_zero, List.drop_succ_cons, List.drop_zero]
        repeat still_step
        refine wpStill_nil ?_
        go_wp2_with fail
        obtain ⟨w2b, hw2b⟩ : ∃ W, W = w2a.setCell ⟨gb, qz, none⟩ (bv u2) := ⟨_, rfl⟩
        rw [← hw2b]
        obtain ⟨L2, hL2⟩ : ∃ L, L = L1.set qz u2 := ⟨_, rfl⟩
        have HG2 := hideIt (show Blk w2b gb 5 (L2.map bv ++ sp) by rw [hw2b, hL2, ← set_byte _ _ _ _ hlq2]; exact HGa2.out.store qz _)
        have HB2 := hideIt (show Below w.heap.size w w2b by rw [hw2b]; exact HBa2.out.setCell (p := ⟨gb, qz, none⟩) hgb _)
        have HL2 := hideIt (show L2.length = l0.length by rw [hL2]; exact List.length_set.trans HL1.out)
        have HD2 := hideIt (show L2 = xorL L1 (bitE l0.length z) by rw [hL2]; exact HM2.out)
        clear hw2b hL2 qA2 qF2 hxx2 hlq2 HM2 HGa2 HBa2
        have hne : crc L2 ≠ crc l0 := by
          rw [HD2.out, HD1.out]
          exact two_bit l0 x z hl64 HX8.out HZ8.out (fun h => HNE.out h.symm)
        have hsl := row_sl HG2.out
        have hLl := HL2.out
        have HS := hideIt (sanity_any w2b (HT.out.keep HB2.out))
        have C1 := hideIt (fun (W : World) (hb : Below w2b.heap.size w2b W) => of_any (some ⟨gb, 0, none⟩) w2b.heap.size cap L2 W (hsl.below hb) (by omega) ((HT.out.keep HB2.out).keep hb))
        have C2 := hideIt (fun (W : World) (hb : Below w2b.heap.size w2b W) => of_any A0 w2b.heap.size c0 l0 W (((X0.out.below HB2.out).wide HB2.out.size).below hb) (by omega) ((HT.out.keep HB2.out).keep hb))
        rw [hLl] at C1
        have hnq := neq_c 23 _ _ hne
        generalize crc L2 = z1 at *
        generalize crc l0 = z2 at *
        clear hsl hLl hne
        go_wp2_with fail
        refine HS.out.mono ?_
        rintro e w3 ⟨rfl, hb⟩
        have HBZ := hideIt hb
        clear hb
        go_wp2_with fail
        refine (C1.out _ HBZ.out).mono ?_
        rintro e w' ⟨rfl, rfl⟩
        go_wp2_with fail
        refine (C2.out _ HBZ.out).mono ?_
        rintro e w' ⟨rfl, rfl⟩
        go_wp2_with fail
        go_ret
        exact ⟨rfl, HB2.out.trans (HBZ.out.mono HB2.out.size)⟩
      · have nzy : ((z : Int) != (y : Int)) = true := by rw [bne_iff_ne]; omega
        obtain ⟨qx, hqx⟩ : ∃ q, q = x / 8 := ⟨_, rfl⟩
        obtain ⟨rx, hrx⟩ : ∃ r, r = x % 8 := ⟨_, rfl⟩
        obtain ⟨ex, hex⟩ : ∃ e, e = UInt8.ofNat (2 ^ (x % 8)) := ⟨_, rfl⟩
        have hquox : binOp .quo 3 (.int .i64 (x : Int)) (.int .i64 8) = pure (.int .i64 (qx : Int)) := by rw [hqx]; exact quo8_c _ x (by omega)
        have hremx : binOp .rem 3 (.int .i64 (x : Int)) (.int .i64 8) = pure (.int .i64 (rx : Int)) := by rw [hrx]; exact rem8_c _ x (by omega)
        have hshlx : binOp .shl 5 (.int .u8 1) (.int .i64 (rx : Int)) = pure (.int .u8 (ex.toNat : Int)) := by rw [hrx, hex]; exact shl1_c _ _ (Nat.mod_lt _ (by decide))
        have hqlx : qx < l0.length := by omega
        have hqix : (qx : Int) < (l0.length : Int) := by omega
        have HQx := hideIt hqx
        have HEx := hideIt hex
        clear hqx hrx hex
        obtain ⟨qy, hqy⟩ : ∃ q, q = y / 8 := ⟨_, rfl⟩
        obtain ⟨ry, hry⟩ : ∃ r, r = y % 8 := ⟨_, rfl⟩
        obtain ⟨ey, hey⟩ : ∃ e, e = UInt8.ofNat (2 ^ (y % 8)) := ⟨_, rfl⟩
        have hquoy : binOp .quo 3 (.int .i64 (y : Int)) (.int .i64 8) = pure (.int .i64 (qy : Int)) := by rw [hqy]; exact quo8_c _ y (by omega)
        have hremy : binOp .rem 3 (.int .i64 (y : Int)) (.int .i64 8) = pure (.int .i64 (ry : Int)) := by rw [hry]; exact rem8_c _ y (by omega)
        have hshly : binOp .shl 5 (.int .u8 1) (.int .i64 (ry : Int)) = pure (.int .u8 (ey.toNat : Int)) := by rw [hry, hey]; exact shl1_c _ _ (Nat.mod_lt _ (by decide))
        have hqly : qy < l0.length := by omega
        have hqiy : (qy : Int) < (l0.length : Int) := by omega
        have HQy := hideIt hqy
        have HEy := hideIt hey
        clear hqy hry hey
        obtain ⟨qz, hqz⟩ : ∃ q, q = z / 8 := ⟨_, rfl⟩
        obtain ⟨rz, hrz⟩ : ∃ r, r = z % 8 := ⟨_, rfl⟩
        obtain ⟨ez, hez⟩ : ∃ e, e = UInt8.ofNat (2 ^ (z % 8)) := ⟨_, rfl⟩
        have hquoz : binOp .quo 3 (.int .i64 (z : Int)) (.int .i64 8) = pure (.int .i64 (qz : Int)) := by rw [hqz]; exact quo8_c _ z (by omega)
        have hremz : binOp .rem 3 (.int .i64 (z : Int)) (.int .i64 8) = pure (.int .i64 (rz : Int)) := by rw [hrz]; exact rem8_c _ z (by omega)
        have hshlz : binOp .shl 5 (.int .u8 1) (.int .i64 (rz : Int)) = pure (.int .u8 (ez.toNat : Int)) := by rw [hrz, hez]; exact shl1_c _ _ (Nat.mod_lt _ (by decide))
        have hqlz : qz < l0.length := by omega
        have hqiz : (qz : Int) < (l0.length : Int) := by omega
        have HQz := hideIt hqz
        have HEz := hideIt hez
        clear hqz hrz hez
        go_enter Tryd.func8, Tryd.ntmps8
        go_wp2_with ((with_reducible refine at_append ?_); refine wpList_app rfl (.tmp 45) (.tmp 46) 22 rfl w.heap.size 5 i0 (.int .u8 0) 1 1 Tryd.underlying22 hi hz0 hz1 hzb rfl (by decide) (.slice none 0 0) 0 [] rfl (World.ownsRow_nil _ _ _ _) _ _ l0.length _ (l0.map bv) rfl X0.out (bv_one _) (by unfold maxLen; omega) (by omega) (Nat.le_refl _) ?_; intro v2 w2 ho2 hb2; have HO2 := own_is (n' := l0.length) (xs' := l0.map bv) ho2 (Nat.zero_add _) rfl; have HB0 := hideIt hb2; clear ho2 hb2; obtain ⟨gb, cap, sp, rfl, hgb, hgc, hgm, _, hblk⟩ := own_bytes HO2.out (by omega); have HG0 := hideIt hblk; clear hblk)
        clear hi hz0 hz1 hzb HO2
        have hlq1 : qx < l0.length := by have := (rfl : l0.length = l0.length); omega
        have hc1 := row_byte HG0.out qx hlq1
        have HN1 : Hid (∀ u, u = l0[qx] ^^^ ex → l0.set qx u = xorL l0 (bitE l0.length x)) := hideIt (fun u hu => set_bit' l0 _ x qx ex u (rfl : l0.length = l0.length) HX8.out HQx.out HEx.out hlq1 hu)
        generalize l0[qx] = y1 at *
        obtain ⟨u1, hu1⟩ : ∃ u, u = y1 ^^^ ex := ⟨_, rfl⟩
        have hxx1 : bits .xor .u8 (y1.toNat : Int) (ex.toNat : Int) = (u1.toNat : Int) := by rw [hu1]; exact xor_bv _ _
        have HM1 := hideIt (HN1.out u1 hu1)
        clear HN1 hu1
        refine still_tail 12 (by kernel_rfl) (by kernel_rfl) ?_
        intro w1a hw1a
        have qA1 : w1a.cell? ⟨gb, qx, none⟩ = some (bv y1) := by rw [hw1a]; exact hc1
        have HGa1 := hideIt (show Blk w1a gb 5 (l0.map bv ++ sp) by rw [hw1a]; exact HG0.out)
        have HBa1 := hideIt (show Below w.heap.size w w1a by rw [hw1a]; exact HB0.out.drew)
        have qF1 : w1a.frozen? ⟨gb, qx, none⟩ = false := HGa1.out.free qx
        clear hw1a hc1
        simp only [List.take_succ_cons, List.take_zero, List.drop_succ_cons, List.drop_zero]
        repeat still_step
        refine wpStill_nil ?_
        go_wp2_with fail
        obtain ⟨w1b, hw1b⟩ : ∃ W, W = w1a.setCell ⟨gb, qx, none⟩ (bv u1) := ⟨_, rfl⟩
        rw [← hw1b]
        obtain ⟨L1, hL1⟩ : ∃ L, L = l0.set qx u1 := ⟨_, rfl⟩
        have HG1 := hideIt (show Blk w1b gb 5 (L1.map bv ++ sp) by rw [hw1b, hL1, ← set_byte _ _ _ _ hlq1]; exact HGa1.out.store qx _)
        have HB1 := hideIt (show Below w.heap.size w w1b by rw [hw1b]; exact HBa1.out.setCell (p := ⟨gb, qx, none⟩) hgb _)
        have HL1 := hideIt (show L1.length = l0.length by rw [hL1]; exact List.length_set.trans (rfl : l0.length = l0.length))
        have HD1 := hideIt (show L1 = xorL l0 (bitE l0.length x) by rw [hL1]; exact HM1.out)
        clear hw1b hL1 qA1 qF1 hxx1 hlq1 HM1 HGa1 HBa1
        have hlq2 : qy < L1.length := by have := HL1.out; omega
        have hc2 := row_byte HG1.out qy hlq2
        have HN2 : Hid (∀ u, u = L1[qy] ^^^ ey → L1.set qy u = xorL L1 (bitE l0.length y)) := hideIt (fun u hu => set_bit' L1 _ y qy ey u HL1.out HY8.out HQy.out HEy.out hlq2 hu)
        generalize L1[qy] = y2 at *
        obtain ⟨u2, hu2⟩ : ∃ u, u = y2 ^^^ ey := ⟨_, rfl⟩
        have hxx2 : bits .xor .u8 (y2.toNat : Int) (ey.toNat : Int) = (u2.toNat : Int) := by rw [hu2]; exact xor_bv _ _
        have HM2 := hideIt (HN2.out u2 hu2)
        clear HN2 hu2
        refine still_tail 12 (by kernel_rfl) (by kernel_rfl) ?_
        intro w2a hw2a
        have qA2 : w2a.cell? ⟨gb, qy, none⟩ = some (bv y2) := by rw [hw2a]; exact hc2
        have HGa2 := hideIt (show Blk w2a gb 5 (L1.map bv ++ sp) by rw [hw2a]; exact HG1.out)
        have HBa2 := hideIt (show Below w.heap.size w w2a by rw [hw2a]; exact HB1.out.drew)
        have qF2 : w2a.frozen? ⟨gb, qy, none⟩ = false := HGa2.out.free qy
        clear hw2a hc2
        simp only [List.take_succ_cons, List.take_zero, List.drop_succ_cons, List.drop_zero]
        repeat still_step
        refine wpStill_nil ?_
        go_wp2_with fail
        obtain ⟨w2b, hw2b⟩ : ∃ W, W = w2a.setCell ⟨gb, qy, none⟩ (bv u2) := ⟨_, rfl⟩
        rw [← hw2b]
        obtain ⟨L2, hL2⟩ : ∃ L, L = L1.set qy u2 := ⟨_, rfl⟩
        have HG2 := hideIt (show Blk w2b gb 5 (L2.map bv ++ sp) by rw [hw2b, hL2, ← set_byte _ _ _ _ hlq2]; exact HGa2.out.store qy _)
        have HB2 := hideIt (show Below w.heap.size w w2b by rw [hw2b]; exact HBa2.out.setCell (p := ⟨gb, qy, none⟩) hgb _)
        have HL2 := hideIt (show L2.length = l0.length by rw [hL2]; exact List.length_set.trans HL1.out)
        have HD2 := hideIt (show L2 = xorL L1 (bitE l0.length y) by rw [hL2]; exact HM2.out)
        clear hw2b hL2 qA2 qF2 hxx2 hlq2 HM2 HGa2 HBa2
        have hlq3 : qz < L2.length := by have := HL2.out; omega
        have hc3 := row_byte HG2.out qz hlq3
        have HN3 : Hid (∀ u, u = L2[qz] ^^^ ez → L2.set qz u = xorL L2 (bitE l0.length z)) := hideIt (fun u hu => set_bit' L2 _ z qz ez u HL2.out HZ8.out HQz.out HEz.out hlq3 hu)
        generalize L2[qz] = y3 at *
        obtain ⟨u3, hu3⟩ : ∃ u, u = y3 ^^^ ez := ⟨_, rfl⟩
        have hxx3 : bits .xor .u8 (y3.toNat : Int) (ez.toNat : Int) = (u3.toNat : Int) := by rw [hu3]; exact xor_bv _ _
        have HM3 := hideIt (HN3.out u3 hu3)
        clear HN3 hu3
        refine still_tail 12 (by kernel_rfl) (by kernel_rfl) ?_
        intro w3a hw3a
        have qA3 : w3a.cell? ⟨gb, qz, none⟩ = some (bv y3) := by rw [hw3a]; exact hc3
        have HGa3 := hideIt (show Blk w3a gb 5 (L2.map bv ++ sp) by rw [hw3a]; exact HG2.out)
        have HBa3 := hideIt (show Below w.heap.size w w3a by rw [hw3a]; exact HB2.out.drew)
        have qF3 : w3a.frozen? ⟨gb, qz, none⟩ = false := HGa3.out.free qz
        clear hw3a hc3
        simp only [List.take_succ_cons, List.take_zero, List.drop_succ_cons, List.drop_zero]
        repeat still_step
        refine wpStill_nil ?_
        go_wp2_with fail
        obtain ⟨w3b, hw3b⟩ : ∃ W, W = w3a.setCell ⟨gb, qz, none⟩ (bv u3) := ⟨_, rfl⟩
        rw [← hw3b]
        obtain ⟨L3, hL3⟩ : ∃ L, L = L2.set qz u3 := ⟨_, rfl⟩
        have HG3 := hideIt (show Blk w3b gb 5 (L3.map bv ++ sp) by rw [hw3b, hL3, ← set_byte _ _ _ _ hlq3]; exact HGa3.out.store qz _)
        have HB3 := hideIt (show Below w.heap.size w w3b by rw [hw3b]; exact HBa3.out.setCell (p := ⟨gb, qz, none⟩) hgb _)
        have HL3 := hideIt (show L3.length = l0.length by rw [hL3]; exact List.length_set.trans HL2.out)
        have HD3 := hideIt (show L3 = xorL L2 (bitE l0.length z) by rw [hL3]; exact HM3.out)
        clear hw3b hL3 qA3 qF3 hxx3 hlq3 HM3 HGa3 HBa3
        have hne : crc L3 ≠ crc l0 := by
          rw [HD3.out, HD2.out, HD1.out]
          exact three_bit l0 x y z HX8.out HY8.out HZ8.out
        have hsl := row_sl HG3.out
        have hLl := HL3.out
        have HS := hideIt (sanity_any w3b (HT.out.keep HB3.out))
        have C1 := hideIt (fun (W : World) (hb : Below w3b.heap.size w3b W) => of_any (some ⟨gb, 0, none⟩) w3b.heap.size cap L3 W (hsl.below hb) (by omega) ((HT.out.keep HB3.out).keep hb))
        have C2 := hideIt (fun (W : World) (hb : Below w3b.heap.size w3b W) => of_any A0 w3b.heap.size c0 l0 W (((X0.out.below HB3.out).wide HB3.out.size).below hb) (by omega) ((HT.out.keep HB3.out).keep hb))
        rw [hLl] at C1
        have hnq := neq_c 23 _ _ hne
        generalize crc L3 = z1 at *
        generalize crc l0 = z2 at *
        clear hsl hLl hne
        go_wp2_with fail
        refine HS.out.mono ?_
        rintro e w3 ⟨rfl, hb⟩
        have HBZ := hideIt hb
        clear hb
        go_wp2_with fail
        refine (C1.out _ HBZ.out).mono ?_
        rintro e w' ⟨rfl, rfl⟩
        go_wp2_with fail
        refine (C2.out _ HBZ.out).mono ?_
        rintro e w' ⟨rfl, rfl⟩
        go_wp2_with fail
        go_ret
        exact ⟨rfl, HB3.out.trans (HBZ.out.mono HB3.out.size)⟩

end Go.Proofs.YtdnbnbnfbfdflaaDoor.crcBits
