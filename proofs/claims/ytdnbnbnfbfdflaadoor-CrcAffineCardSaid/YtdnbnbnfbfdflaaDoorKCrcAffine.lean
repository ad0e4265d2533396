/-
  The walk of the law: For every three strings of one length, the XOR of their checksums is the checksum of their XOR.
-/
import Derived.Test.YtdnbnbnfbfdflaaDoorCrcS
import Derived.Test.YtdnbnbnfbfdflaaDoorCrcQ
import Derived.Test.YtdnbnbnfbfdflaaDoorBQ
import Derived.Test.YtdnbnbnfbfdflaaDoorOnceLU
namespace Go.Proofs.YtdnbnbnfbfdflaaDoor.crcAffine
open Go.RowKit
set_option linter.unusedVariables false
attribute [local go_sem] eqGuard_wv binOp_add_wv binOp_and_wv binOp_or_wv binOp_xor_wv binOp_shr_wv binOp_shl_wv unary_xor_wv run_convert_wv run_store_wv run_storeCells_wv run_convert_bw

theorem eq_self_c (t : TypeId) (x : UInt32) : binOp .eql t (wv x) (wv x) = pure (.bool true) := by
  unfold wv
  rw [binOp_eql]
  simp
theorem xor_bv (x y : UInt8) : bits .xor .u8 (x.toNat : Int) (y.toNat : Int) = ((x ^^^ y).toNat : Int) := by
  have h := u8_xor_nat x.toNat y.toNat x.toNat_lt y.toNat_lt
  rw [UInt8.toNat_xor, ← h]
attribute [local go_sem] eq_self_c
/-- The first k bytes of the three strings' XOR. -/
def D3 (a b c : List UInt8) (k : Nat) : List UInt8 := xorL (xorL (a.take k) (b.take k)) (c.take k)
theorem D3_len (a b c : List UInt8) (k : Nat) (h1 : k ≤ a.length) (h2 : k ≤ b.length) (h3 : k ≤ c.length) : (D3 a b c k).length = k := by
  unfold D3 xorL
  simp only [List.length_zipWith, List.length_take]
  omega
theorem xorL_snoc (a b : List UInt8) (x y : UInt8) (h : a.length = b.length) : xorL (a ++ [x]) (b ++ [y]) = xorL a b ++ [x ^^^ y] := by
  unfold xorL
  rw [List.zipWith_append h]
  rfl
theorem D3_step (a b c : List UInt8) (k : Nat) (h1 : k < a.length) (h2 : k < b.length) (h3 : k < c.length) : D3 a b c (k + 1) = D3 a b c k ++ [a[k] ^^^ b[k] ^^^ c[k]] := by
  unfold D3
  rw [take_snoc a k h1, take_snoc b k h2, take_snoc c k h3, xorL_snoc _ _ _ _ (by rw [List.length_take, List.length_take]; omega), xorL_snoc]
  rw [xorL_len _ _ (by rw [List.length_take, List.length_take]; omega), List.length_take, List.length_take]; omega
theorem cut_to {P : Program} {T e : TypeId} (hT : P.underlying T = some (.slice e)) (hs : ∀ W, (sizeOf e).run P W = .ok 1 W) (A : Option Addr) {n cap k : Nat} (hk : k ≤ n) (hn : n ≤ cap) (W : World) :
    (Instr.sliceAt T (.slice A n cap) none (some (.int .i64 (k : Int))) none).run P W = .ok (.slice A k cap) W := by
  have hel : P.elem T = e := by simp [Program.elem, hT]
  rw [run_sliceAt_slice W T _ _ _ _ (by rw [hel]; exact hT), run_slice_h W T A n cap (by rw [hel]; exact hT) .i64 k (by omega) (by omega), hel, hs]
  cases A <;> simp [Result.andThen, sliced, Addr.add]
theorem wp_region_quiet_below {P : Program} {id : Nat} {Q : Exit → Act → World → Prop} {a : Act} {w w0 : World} {B : Nat} {l : List Oper} (hm : P.follows .mixedOrders = true) (hB : Region.lexB .any l.toArray = true) (hC : Below B w0 w)
    (h : wpQuiet P l.toArray (fun w' => Below B w0 w') (fun a' => ∀ w', Below B w0 w' → Q .normal a' w') l a) : (Code.region id l.toArray true).wp P Q a w :=
  wp_region_quiet (C := fun w' => Below B w0 w') hm hB hC.drew (by simpa using h)

set_option maxHeartbeats 1000000 in
set_option maxRecDepth 100000 in
theorem walk (A0 : Option Addr) (c0 : Nat) (l0 : List UInt8) (A1 : Option Addr) (c1 : Nat) (l1 : List UInt8) (A2 : Option Addr) (c2 : Nat) (l2 : List UInt8) (w : World) (x0 : Sl w w.heap.size A0 1 l0.length (l0.map bv)) (m0 : l0.length ≤ c0) (k0 : c0 ≤ maxLen) (s0 : l0.length ≤ 140737488351232) (x1 : Sl w w.heap.size A1 1 l1.length (l1.map bv)) (m1 : l1.length ≤ c1) (k1 : c1 ≤ maxLen) (s1 : l1.length ≤ 140737488351232) (x2 : Sl w w.heap.size A2 1 l2.length (l2.map bv)) (m2 : l2.length ≤ c2) (k2 : c2 ≤ maxLen) (s2 : l2.length ≤ 140737488351232) (T1 : Tabs w) :
    Calls Tryd.prog 9 #[.slice A0 l0.length c0, .slice A1 l1.length c1, .slice A2 l2.length c2] w fun e w' => e = .returned (.bool true) ∧ Below w.heap.size w w' := by
  have HT := hideIt T1
  have X0 := hideIt x0
  have X1 := hideIt x1
  have X2 := hideIt x2
  obtain ⟨i0, hi, hz0, hz1, hzb⟩ := info_parts (show (Tryd.prog.info? 5).map (fun i => (i.zero, i.size, i.bytes)) = some (some (Value.int .u8 0), 1, 1) by kernel_rfl)
  have HS0 := hideIt (sanity_any w T1)
  clear T1 x0 x1 x2
  by_cases h1 : l1.length < l0.length
  · clear hi hz0 hz1 hzb
    go_enter Tryd.func9, Tryd.ntmps9
    go_wp2_with (go_at_call 10; refine HS0.out.mono ?_; rintro e w' ⟨rfl, hb⟩; have HB := hideIt hb; clear hb)
    go_ret
    exact ⟨rfl, HB.out⟩
  by_cases h2 : l2.length < l0.length
  · clear hi hz0 hz1 hzb
    go_enter Tryd.func9, Tryd.ntmps9
    go_wp2_with (go_at_call 10; refine HS0.out.mono ?_; rintro e w' ⟨rfl, hb⟩; have HB := hideIt hb; clear hb)
    go_ret
    exact ⟨rfl, HB.out⟩
  clear HS0
  have HAFF : Hid (crc l0 ^^^ crc (l1.take l0.length) ^^^ crc (l2.take l0.length) = crc (D3 l0 l1 l2 l0.length)) := by
    have h3 := crc_aff l0 (l1.take l0.length) (l2.take l0.length) (by rw [List.length_take]; omega) (by rw [List.length_take]; omega)
    unfold D3
    rw [List.take_length]; exact h3
  go_enter Tryd.func9, Tryd.ntmps9
  go_wp2_with fail
  go_loopg [8, 9] l0.length (fun g s8 s9 wr => ∃ (k : Nat) (A : Option Addr) (c : Nat), g + k = l0.length ∧ s8 = .slice A k c ∧ s9 = .int .i64 k ∧
    Aside (wr.ownsRow w.heap.size 5 1 (.slice A k c) k ((D3 l0 l1 l2 k).map bv) ∧ Below w.heap.size w wr))
  case atStart => exact ⟨0, none, 0, rfl, rfl, rfl, World.ownsRow_nil _ _ _ _, Below.refl _ _⟩
  case round =>
    obtain ⟨k, A, c, hg, rfl, rfl, HA⟩ := hrel
    by_cases hk : k < l0.length
    · obtain ⟨b0, o0, rfl, hb0, hc0⟩ := (X0.out.below HA.out.2).byte hk
      obtain ⟨b1, o1, rfl, hb1, hc1⟩ := (X1.out.below HA.out.2).byte (k := k) (by omega)
      obtain ⟨b2, o2, rfl, hb2, hc2⟩ := (X2.out.below HA.out.2).byte (k := k) (by omega)
      have HN := hideIt (D3_step l0 l1 l2 k hk (by omega) (by omega))
      generalize l0[k] = y0 at *
      generalize l1[k]'(by omega) = y1 at *
      generalize l2[k]'(by omega) = y2 at *
      obtain ⟨x1, hx1⟩ : ∃ x, x = y0 ^^^ y1 := ⟨_, rfl⟩
      obtain ⟨x2, hx2⟩ : ∃ x, x = x1 ^^^ y2 := ⟨_, rfl⟩
      have hxa : bits .xor .u8 (y0.toNat : Int) (y1.toNat : Int) = (x1.toNat : Int) := by rw [hx1]; exact xor_bv y0 y1
      have hxb : bits .xor .u8 (x1.toNat : Int) (y2.toNat : Int) = (x2.toNat : Int) := by rw [hx2]; exact xor_bv x1 y2
      rw [← hx1, ← hx2] at HN
      clear hx1 hx2
      have hki : (k : Int) < (l0.length : Int) := by omega
      have hk1 : (k : Int) < (l1.length : Int) := by omega
      have hk2 : (k : Int) < (l2.length : Int) := by omega
      go_wp2_with fail
      refine loads_begin_n 18 [(17, fun W' => W'.cell? ⟨b0, o0 + k, none⟩ = some (bv y0)), (17, fun W' => W'.cell? ⟨b1, o1 + k, none⟩ = some (bv y1)), (17, fun W' => W'.cell? ⟨b2, o2 + k, none⟩ = some (bv y2))] rfl (by kernel_rfl) ?_
      refine wpAnyL_move (oi := ⟨some 30, _, _, _, _, _⟩) 0 ?_ rfl (by kernel_rfl) (by kernel_rfl) (by kernel_rfl) (by kernel_rfl) (fun _ _ _ h => h) (by kernel_rfl) ?_ (Hooks.add hc0 (Hooks.add hc1 (Hooks.add hc2 (Hooks.nil _ _)))) ?_
      rotate_left
      · intro W'; go_simp; first | done | with_reducible rfl
      try simp only [Act.put]
      try simp only [List.setIfInBounds_toArray]
      try simp only [List.set_cons_succ]
      try simp only [List.set_cons_zero]
      refine wpAnyL_move (oi := ⟨some 31, _, _, _, _, _⟩) 1 ?_ rfl (by kernel_rfl) (by kernel_rfl) (by kernel_rfl) (by kernel_rfl) (fun _ _ _ h => h) (by kernel_rfl) ?_ (Hooks.add hc0 (Hooks.add hc1 (Hooks.add hc2 (Hooks.nil _ _)))) ?_
      rotate_left
      · intro W'; go_simp; first | done | with_reducible rfl
      try simp only [Act.put]
      try simp only [List.setIfInBounds_toArray]
      try simp only [List.set_cons_succ]
      try simp only [List.set_cons_zero]
      refine wpAnyL_move (oi := ⟨some 32, _, _, _, _, _⟩) 2 ?_ rfl (by kernel_rfl) (by kernel_rfl) (by kernel_rfl) (by kernel_rfl) (fun _ _ _ h => h) (by kernel_rfl) ?_ (Hooks.add hc0 (Hooks.add hc1 (Hooks.add hc2 (Hooks.nil _ _)))) ?_
      rotate_left
      · intro W'; go_simp; first | done | with_reducible rfl
      try simp only [Act.put]
      try simp only [List.setIfInBounds_toArray]
      try simp only [List.set_cons_succ]
      try simp only [List.set_cons_zero]
      refine wpAnyL_move (oi := ⟨some 33, _, _, _, _, _⟩) 3 ?_ rfl (by kernel_rfl) (by kernel_rfl) (by kernel_rfl) (by kernel_rfl) (fun _ _ _ h => h) (by kernel_rfl) ?_ (Hooks.add hc0 (Hooks.add hc1 (Hooks.add hc2 (Hooks.nil _ _)))) ?_
      rotate_left
      · intro W'; go_simp; first | done | with_reducible rfl
      try simp only [Act.put]
      try simp only [List.setIfInBounds_toArray]
      try simp only [List.set_cons_succ]
      try simp only [List.set_cons_zero]
      refine wpAnyL_take (oi := ⟨some 34, _, _, _, _, _⟩) 4 17 (bv y0) _ rfl (by kernel_rfl) (by kernel_rfl) (by kernel_rfl) (by kernel_rfl) (by kernel_rfl) (by kernel_rfl) (.head _) (fun _ _ _ h => h) (by kernel_rfl) (fun W' hW' => by (try dsimp only at hW'); go_simp) (Hooks.add hc0 (Hooks.add hc1 (Hooks.add hc2 (Hooks.nil _ _)))) ?_
      try simp only [Act.put]
      try simp only [List.setIfInBounds_toArray]
      try simp only [List.set_cons_succ]
      try simp only [List.set_cons_zero]
      refine wpAnyL_move (oi := ⟨some 35, _, _, _, _, _⟩) 5 ?_ rfl (by kernel_rfl) (by kernel_rfl) (by kernel_rfl) (by kernel_rfl) (fun _ _ _ h => h) (by kernel_rfl) ?_ (Hooks.add hc0 (Hooks.add hc1 (Hooks.add hc2 (Hooks.nil _ _)))) ?_
      rotate_left
      · intro W'; go_simp; first | done | with_reducible rfl
      try simp only [Act.put]
      try simp only [List.setIfInBounds_toArray]
      try simp only [List.set_cons_succ]
      try simp only [List.set_cons_zero]
      refine wpAnyL_move (oi := ⟨some 36, _, _, _, _, _⟩) 6 ?_ rfl (by kernel_rfl) (by kernel_rfl) (by kernel_rfl) (by kernel_rfl) (fun _ _ _ h => h) (by kernel_rfl) ?_ (Hooks.add hc0 (Hooks.add hc1 (Hooks.add hc2 (Hooks.nil _ _)))) ?_
      rotate_left
      · intro W'; go_simp; first | done | with_reducible rfl
      try simp only [Act.put]
      try simp only [List.setIfInBounds_toArray]
      try simp only [List.set_cons_succ]
      try simp only [List.set_cons_zero]
      refine wpAnyL_move (oi := ⟨some 37, _, _, _, _, _⟩) 7 ?_ rfl (by kernel_rfl) (by kernel_rfl) (by kernel_rfl) (by kernel_rfl) (fun _ _ _ h => h) (by kernel_rfl) ?_ (Hooks.add hc0 (Hooks.add hc1 (Hooks.add hc2 (Hooks.nil _ _)))) ?_
      rotate_left
      · intro W'; go_simp; first | done | with_reducible rfl
      try simp only [Act.put]
      try simp only [List.setIfInBounds_toArray]
      try simp only [List.set_cons_succ]
      try simp only [List.set_cons_zero]
      refine wpAnyL_take (oi := ⟨some 38, _, _, _, _, _⟩) 8 17 (bv y1) _ rfl (by kernel_rfl) (by kernel_rfl) (by kernel_rfl) (by kernel_rfl) (by kernel_rfl) (by kernel_rfl) (.tail _ (.head _)) (fun _ _ _ h => h) (by kernel_rfl) (fun W' hW' => by (try dsimp only at hW'); go_simp) (Hooks.add hc0 (Hooks.add hc1 (Hooks.add hc2 (Hooks.nil _ _)))) ?_
      try simp only [Act.put]
      try simp only [List.setIfInBounds_toArray]
      try simp only [List.set_cons_succ]
      try simp only [List.set_cons_zero]
      refine wpAnyL_move (oi := ⟨some 39, _, _, _, _, _⟩) 9 ?_ rfl (by kernel_rfl) (by kernel_rfl) (by kernel_rfl) (by kernel_rfl) (fun _ _ _ h => h) (by kernel_rfl) ?_ (Hooks.add hc0 (Hooks.add hc1 (Hooks.add hc2 (Hooks.nil _ _)))) ?_
      rotate_left
      · intro W'; go_simp; first | done | with_reducible rfl
      try simp only [Act.put]
      try simp only [List.setIfInBounds_toArray]
      try simp only [List.set_cons_succ]
      try simp only [List.set_cons_zero]
      refine wpAnyL_move (oi := ⟨some 40, _, _, _, _, _⟩) 10 ?_ rfl (by kernel_rfl) (by kernel_rfl) (by kernel_rfl) (by kernel_rfl) (fun _ _ _ h => h) (by kernel_rfl) ?_ (Hooks.add hc0 (Hooks.add hc1 (Hooks.add hc2 (Hooks.nil _ _)))) ?_
      rotate_left
      · intro W'; go_simp; first | done | with_reducible rfl
      try simp only [Act.put]
      try simp only [List.setIfInBounds_toArray]
      try simp only [List.set_cons_succ]
      try simp only [List.set_cons_zero]
      refine wpAnyL_move (oi := ⟨some 41, _, _, _, _, _⟩) 11 ?_ rfl (by kernel_rfl) (by kernel_rfl) (by kernel_rfl) (by kernel_rfl) (fun _ _ _ h => h) (by kernel_rfl) ?_ (Hooks.add hc0 (Hooks.add hc1 (Hooks.add hc2 (Hooks.nil _ _)))) ?_
      rotate_left
      · intro W'; go_simp; first | done | with_reducible rfl
      try simp only [Act.put]
      try simp only [List.setIfInBounds_toArray]
      try simp only [List.set_cons_succ]
      try simp only [List.set_cons_zero]
      refine wpAnyL_move (oi := ⟨some 42, _, _, _, _, _⟩) 12 ?_ rfl (by kernel_rfl) (by kernel_rfl) (by kernel_rfl) (by kernel_rfl) (fun _ _ _ h => h) (by kernel_rfl) ?_ (Hooks.add hc0 (Hooks.add hc1 (Hooks.add hc2 (Hooks.nil _ _)))) ?_
      rotate_left
      · intro W'; go_simp; first | done | with_reducible rfl
      try simp only [Act.put]
      try simp only [List.setIfInBounds_toArray]
      try simp only [List.set_cons_succ]
      try simp only [List.set_cons_zero]
      refine wpAnyL_take (oi := ⟨some 43, _, _, _, _, _⟩) 13 17 (bv y2) _ rfl (by kernel_rfl) (by kernel_rfl) (by kernel_rfl) (by kernel_rfl) (by kernel_rfl) (by kernel_rfl) (.tail _ (.tail _ (.head _))) (fun _ _ _ h => h) (by kernel_rfl) (fun W' hW' => by (try dsimp only at hW'); go_simp) (Hooks.add hc0 (Hooks.add hc1 (Hooks.add hc2 (Hooks.nil _ _)))) ?_
      try simp only [Act.put]
      try simp only [List.setIfInBounds_toArray]
      try simp only [List.set_cons_succ]
      try simp only [List.set_cons_zero]
      refine wpAnyL_move (oi := ⟨some 44, _, _, _, _, _⟩) 14 ?_ rfl (by kernel_rfl) (by kernel_rfl) (by kernel_rfl) (by kernel_rfl) (fun _ _ _ h => h) (by kernel_rfl) ?_ (Hooks.add hc0 (Hooks.add hc1 (Hooks.add hc2 (Hooks.nil _ _)))) ?_
      rotate_left
      · intro W'; go_simp; first | done | with_reducible rfl
      try simp only [Act.put]
      try simp only [List.setIfInBounds_toArray]
      try simp only [List.set_cons_succ]
      try simp only [List.set_cons_zero]
      obtain ⟨w2, hw2⟩ : ∃ W, W = wr.drew := ⟨_, rfl⟩
      have HO := hideIt (show w2.ownsRow w.heap.size 5 1 (.slice A k c) k ((D3 l0 l1 l2 k).map bv) by rw [hw2]; exact HA.out.1)
      have HB := hideIt (show Below w.heap.size w w2 by rw [hw2]; exact HA.out.2.drew)
      rw [← hw2]
      have hz2 := HB.out.size
      have HQ : Hid (∀ W' b, Below w.heap.size w W' → Hooks [(17, fun W' => W'.cell? ⟨b0, o0 + k, none⟩ = some (bv y0)), (17, fun W' => W'.cell? ⟨b1, o1 + k, none⟩ = some (bv y1)), (17, fun W' => W'.cell? ⟨b2, o2 + k, none⟩ = some (bv y2))] b W') := hideIt (fun W' b hb' => Hooks.add ((hb'.cell (p := ⟨_, _, none⟩) hb0).trans ((HA.out.2.cell (p := ⟨_, _, none⟩) hb0).symm.trans hc0)) (Hooks.add ((hb'.cell (p := ⟨_, _, none⟩) hb1).trans ((HA.out.2.cell (p := ⟨_, _, none⟩) hb1).symm.trans hc1)) (Hooks.add ((hb'.cell (p := ⟨_, _, none⟩) hb2).trans ((HA.out.2.cell (p := ⟨_, _, none⟩) hb2).symm.trans hc2)) (Hooks.nil _ _))))
      clear hw2 hc0 hc1 hc2
      refine wpAnyL_one (o := ⟨some 45, _, _, _, _, _⟩) 15 (by kernel_rfl) rfl (fun K hK => ?_)
      go_wp2_with fail
      refine hK _ _ (HQ.out _ _ (HB.out.trans ((below_new w2 _).mono HB.out.size))) ?_
      clear hK K
      refine wpAnyL_one (o := ⟨some 46, _, _, _, _, _⟩) 16 (by kernel_rfl) rfl (fun K hK => ?_)
      go_wp2_with ((with_reducible refine at_append ?_); refine wpList_app rfl (.tmp 30) (.tmp 45) 22 rfl w.heap.size 5 i0 (.int .u8 0) 1 1 Tryd.underlying22 hi hz0 hz1 hzb rfl (by decide) _ k ((D3 l0 l1 l2 k).map bv) rfl (own_kept HO.out (below_new w2 _)) _ _ 1 _ [bv x2] rfl (sl_one w2 _ _) (ones_one rfl) (by unfold maxLen; omega) (by omega) (Nat.le_trans HB.out.size (below_new w2 _).size) ?_; intro v3 w3 ho3 hb3; have HO3 := own_is (n' := k + 1) (xs' := (D3 l0 l1 l2 (k + 1)).map bv) ho3 rfl (by rw [HN.out, List.map_append]; rfl); clear ho3; obtain ⟨A3, c3, rfl, q3, q4⟩ := own_form HO3.out; have HB3 := hideIt ((HB.out.trans ((below_new w2 _).mono HB.out.size)).trans hb3); clear hb3)
      refine hK _ _ (HQ.out _ _ HB3.out) ?_
      clear hK K
      refine loads_tail 17 (by kernel_rfl) (by kernel_rfl) (by kernel_rfl) (by kernel_rfl) ?_
      simp only [List.drop_succ_cons, List.drop_zero]
      go_wp2_with fail
      go_roundg (gk - 1)
      case measure => omega
      case rel => exact ⟨k + 1, A3, c3, by omega, rfl, by go_num, HO3.out, HB3.out⟩
    · have hki : ¬ (k : Int) < (l0.length : Int) := by omega
      obtain rfl : k = l0.length := by omega
      have HS := hideIt (fun (W : World) (hb : Below wr.heap.size wr W) => sanity_any W ((HT.out.keep HA.out.2).keep hb))
      have hsz := HA.out.2.size
      have hT0 := X0.out.below HA.out.2
      have hT1 : Sl wr w.heap.size A1 1 (l1.take l0.length).length ((l1.take l0.length).map bv) := by
        have h := (X1.out.below HA.out.2).take (k := l0.length) (by omega)
        rw [Nat.mul_one, ← List.map_take] at h
        rw [List.length_take, Nat.min_eq_left (by omega)]; exact h
      have hT2 : Sl wr w.heap.size A2 1 (l2.take l0.length).length ((l2.take l0.length).map bv) := by
        have h := (X2.out.below HA.out.2).take (k := l0.length) (by omega)
        rw [Nat.mul_one, ← List.map_take] at h
        rw [List.length_take, Nat.min_eq_left (by omega)]; exact h
      have hT3 := Sl.of_own HA.out.1
      have e1 : (l1.take l0.length).length = l0.length := by rw [List.length_take]; omega
      have e2 : (l2.take l0.length).length = l0.length := by rw [List.length_take]; omega
      have e3 : (D3 l0 l1 l2 l0.length).length = l0.length := D3_len _ _ _ _ (Nat.le_refl _) (by omega) (by omega)
      have C0 := hideIt (fun (W : World) (hb : Below wr.heap.size wr W) => of_any A0 wr.heap.size c0 l0 W ((hT0.wide hsz).below hb) (by omega) ((HT.out.keep HA.out.2).keep hb))
      have C1 := hideIt (fun (W : World) (hb : Below wr.heap.size wr W) => of_any A1 wr.heap.size c1 (l1.take l0.length) W ((hT1.wide hsz).below hb) (by omega) ((HT.out.keep HA.out.2).keep hb))
      have C2 := hideIt (fun (W : World) (hb : Below wr.heap.size wr W) => of_any A2 wr.heap.size c2 (l2.take l0.length) W ((hT2.wide hsz).below hb) (by omega) ((HT.out.keep HA.out.2).keep hb))
      have C3 := hideIt (fun (W : World) (hb : Below wr.heap.size wr W) => of_any A wr.heap.size c (D3 l0 l1 l2 l0.length) W ((by rw [e3]; exact hT3 : Sl wr wr.heap.size A 1 (D3 l0 l1 l2 l0.length).length _).below hb) (by omega) ((HT.out.keep HA.out.2).keep hb))
      rw [e1] at C1
      rw [e2] at C2
      rw [e3] at C3
      have hs1 : ∀ W, (Instr.sliceAt 22 (.slice A1 l1.length c1) none (some (.int .i64 (l0.length : Int))) none).run Tryd.prog W = .ok (.slice A1 l0.length c1) W := fun W => cut_to Tryd.underlying22 (fun W => by kernel_rfl) A1 (by omega) m1 W
      have hs2 : ∀ W, (Instr.sliceAt 22 (.slice A2 l2.length c2) none (some (.int .i64 (l0.length : Int))) none).run Tryd.prog W = .ok (.slice A2 l0.length c2) W := fun W => cut_to Tryd.underlying22 (fun W => by kernel_rfl) A2 (by omega) m2 W
      generalize crc l0 = z0 at *
      generalize crc (l1.take l0.length) = z1 at *
      generalize crc (l2.take l0.length) = z2 at *
      generalize crc (D3 l0 l1 l2 l0.length) = z3 at *
      have hxx : binOp .xor 23 (wv (z0 ^^^ z1)) (wv z2) = pure (wv z3) := by rw [binOp_xor_wv, HAFF.out]
      clear hT0 hT1 hT2 hT3 e1 e2 e3 HAFF hi hz0 hz1 hzb
      go_wp2_with fail
      refine wp_region_quiet_below (by kernel_rfl) (by kernel_rfl) (Below.refl wr.heap.size wr) ?_
      repeat (go_big_quiet_step (first
        | (intro hb; refine (HS.out _ hb).mono ?_; rintro x wc ⟨rfl, hb2⟩; exact ⟨rfl, hb.trans (hb2.mono hb.size)⟩)
        | (intro hb; refine (C0.out _ hb).mono ?_; rintro x wc ⟨rfl, rfl⟩; exact ⟨rfl, hb⟩)
        | (intro hb; refine (C1.out _ hb).mono ?_; rintro x wc ⟨rfl, rfl⟩; exact ⟨rfl, hb⟩)
        | (intro hb; refine (C2.out _ hb).mono ?_; rintro x wc ⟨rfl, rfl⟩; exact ⟨rfl, hb⟩)
        | (intro hb; refine (C3.out _ hb).mono ?_; rintro x wc ⟨rfl, rfl⟩; exact ⟨rfl, hb⟩)
        | (intro _; rfl) | (intro _; exact ⟨rfl, rfl⟩)))
      refine wpQuiet_nil ?_
      intro wc BC
      go_wp2
      go_ret
      exact ⟨rfl, HA.out.2.trans (BC.mono HA.out.2.size)⟩

end Go.Proofs.YtdnbnbnfbfdflaaDoor.crcAffine
