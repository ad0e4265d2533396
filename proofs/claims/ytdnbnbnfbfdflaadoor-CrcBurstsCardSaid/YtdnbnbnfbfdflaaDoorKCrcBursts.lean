/-
  The walk of the law: Changing bytes within four adjacent positions of a string, in any way, changes its checksum.
-/
import Derived.Test.YtdnbnbnfbfdflaaDoorCrcS
import Derived.Test.YtdnbnbnfbfdflaaDoorCrcB
namespace Go.Proofs.YtdnbnbnfbfdflaaDoor.crcBursts
open Go.RowKit
set_option linter.unusedVariables false
attribute [local go_sem] eqGuard_wv binOp_add_wv binOp_and_wv binOp_or_wv binOp_xor_wv binOp_shr_wv binOp_shl_wv unary_xor_wv run_convert_wv run_store_wv run_storeCells_wv run_convert_bw

set_option maxHeartbeats 1000000 in
set_option maxRecDepth 100000 in
theorem walk (A0 : Option Addr) (c0 : Nat) (l0 : List UInt8) (a1 : Int) (l2 : List UInt8) (w : World) (x0 : Sl w w.heap.size A0 1 l0.length (l0.map bv)) (m0 : l0.length ≤ c0) (k0 : c0 ≤ maxLen) (s0 : l0.length ≤ 140737488351232) (w1 : -9223372036854775808 ≤ a1 ∧ a1 ≤ 9223372036854775807) (w2 : l2.length = 4) (T1 : Tabs w) :
    Calls Tryd.prog 7 #[.slice A0 l0.length c0, .int .i64 a1, .agg (l2.map bv).toArray] w fun e w' => e = .returned (.bool true) ∧ Below w.heap.size w w' := by
  have HT := hideIt T1
  have X0 := hideIt x0
  obtain ⟨i0, hi, hz0, hz1, hzb⟩ := info_parts (show (Tryd.prog.info? 5).map (fun i => (i.zero, i.size, i.bytes)) = some (some (Value.int .u8 0), 1, 1) by kernel_rfl)
  have hB1 : Below w.heap.size w (w.alloc (.cells (l2.map bv).toArray 34)) := (Below.refl _ _).alloc (Nat.le_refl _) _
  have HS0 := hideIt (sanity_any _ (T1.keep hB1))
  have hws : IntKind.i64.wrap ((l0.length : Int) - 4) = (l0.length : Int) - 4 := IntWalk.i64_in _ (by omega)
  have hbk := Blk.new w 34 (l2.map bv)
  have HBK := hideIt hbk
  have hsz : ([0, 0, 0, 0] : List UInt8).length = 4 := rfl
  have heq : ∀ W, (Op.equalIn 10000 34 (.agg (l2.map bv).toArray) (.agg #[.int .u8 0, .int .u8 0, .int .u8 0, .int .u8 0])).run Tryd.prog W = .ok (decide (l2 = [0, 0, 0, 0])) W := fun W => equal_bytes 34 4 (by kernel_rfl) l2 [0, 0, 0, 0] w2 hsz W
  have W2 := hideIt w2
  have HB1 := hideIt hB1
  clear T1 x0 hB1 hbk hsz
  by_cases h0 : a1 < 0
  · clear hi hz0 hz1 hzb heq w2
    go_enter Tryd.func7, Tryd.ntmps7
    go_wp2_with (go_at_call 10; refine HS0.out.mono ?_; rintro e w' ⟨rfl, hb⟩; have HB := hideIt hb; clear hb)
    go_ret
    exact ⟨rfl, HB1.out.trans (HB.out.mono HB1.out.size)⟩
  by_cases h1 : (l0.length : Int) - 4 < a1
  · clear hi hz0 hz1 hzb heq w2
    go_enter Tryd.func7, Tryd.ntmps7
    go_wp2_with (go_at_call 10; refine HS0.out.mono ?_; rintro e w' ⟨rfl, hb⟩; have HB := hideIt hb; clear hb)
    go_ret
    exact ⟨rfl, HB1.out.trans (HB.out.mono HB1.out.size)⟩
  by_cases h2 : l2 = [0, 0, 0, 0]
  · rw [decide_eq_true h2] at heq
    clear hi hz0 hz1 hzb w2 h2
    go_enter Tryd.func7, Tryd.ntmps7
    go_wp2_with (first
      | ((with_reducible refine at_load ?_); refine wpList_get_g (by kernel_rfl) 34 (.tmp 5) rfl w.heap.size (l2.map bv) 34 (.array 4 5) rfl HBK.out (by kernel_rfl) rfl (by rw [List.length_map, W2.out]; kernel_rfl) ?_)
      | (go_at_call 10; refine HS0.out.mono ?_; rintro e w' ⟨rfl, hb⟩; have HB := hideIt hb; clear hb))
    go_ret
    exact ⟨rfl, HB1.out.trans (HB.out.mono HB1.out.size)⟩
  rw [decide_eq_false h2] at heq
  clear HS0
  have H2 := hideIt h2
  obtain ⟨t, rfl⟩ : ∃ t : Nat, a1 = (t : Int) := ⟨a1.toNat, by omega⟩
  have hn4 : t + 4 ≤ l0.length := by omega
  obtain ⟨w1, hw1⟩ : ∃ W, W = w.alloc (.cells (l2.map bv).toArray 34) := ⟨_, rfl⟩
  rw [← hw1] at HBK HB1
  have hwz : w1.heap.size = w.heap.size + 1 := by rw [hw1]; simp
  have HW1 := hideIt hw1
  have X1 := hideIt (X0.out.below HB1.out)
  clear hw1 w2 h2
  go_enter Tryd.func7, Tryd.ntmps7
  go_wp2_with (first
    | ((with_reducible refine at_load ?_); rw [← HW1.out]; refine wpList_get_g (by kernel_rfl) 34 (.tmp 5) rfl w.heap.size (l2.map bv) 34 (.array 4 5) rfl HBK.out (by kernel_rfl) rfl (by rw [List.length_map, W2.out]; kernel_rfl) ?_)
    | ((with_reducible refine at_append ?_); refine wpList_app rfl (.tmp 24) (.tmp 25) 22 rfl w1.heap.size 5 i0 (.int .u8 0) 1 1 Tryd.underlying22 hi hz0 hz1 hzb rfl (by decide) (.slice none 0 0) 0 [] rfl (World.ownsRow_nil _ _ _ _) _ _ l0.length _ (l0.map bv) rfl X1.out (bv_one _) (by unfold maxLen; omega) (by omega) (Nat.le_refl _) ?_; intro v2 w2 ho2 hb2; have HO2 := own_is (n' := l0.length) (xs' := l0.map bv) ho2 (Nat.zero_add _) rfl; have HB12 := hideIt hb2; clear ho2 hb2; obtain ⟨gb, cap, sp, rfl, hgb, hgc, hgm, _, hblk⟩ := own_bytes HO2.out (by omega); have HG := hideIt hblk; clear hblk))
  have HB2 := hideIt (HB1.out.trans (HB12.out.mono (by omega)))
  have HBK2 := hideIt (HBK.out.kept HB12.out (by omega))
  have hgb2 : w.heap.size < gb := by omega
  clear hi hz0 hz1 hzb heq HO2 hwz
  go_loopg [8] 4 (fun g s8 wr => ∃ (k : Nat), g + k = 4 ∧ s8 = .int .i64 k ∧
    Aside (Blk wr w.heap.size 34 (l2.map bv) ∧ Blk wr gb 5 ((chg l0 l2 t k).map bv ++ sp) ∧ Below w.heap.size w wr))
  case atStart => exact ⟨0, rfl, rfl, HBK2.out, HG.out, HB2.out⟩
  case round =>
    obtain ⟨k, hg, rfl, HA⟩ := hrel
    by_cases hk : k < 4
    · have hL := chg_len l0 l2 t k
      have hkl : k < l2.length := by rw [W2.out]; exact hk
      have hcA := row_byte HA.out.2.1 (t + k) (by omega)
      have hcB : wr.cell? ⟨w.heap.size, k, none⟩ = some (bv l2[k]) := by rw [HA.out.1.cell, List.getElem?_map, List.getElem?_eq_getElem hkl]; rfl
      have HN : Hid (∀ x, x = (chg l0 l2 t k)[t + k]'(by omega) ^^^ l2[k] → (chg l0 l2 t k).set (t + k) x = chg l0 l2 t (k + 1)) := hideIt (fun x hx => by
        rw [chg, List.getD_eq_getElem?_getD, List.getD_eq_getElem?_getD, List.getElem?_eq_getElem (by omega), List.getElem?_eq_getElem hkl, hx]; rfl)
      generalize (chg l0 l2 t k)[t + k]'(by omega) = y at *
      generalize l2[k] = z at *
      obtain ⟨x, hx⟩ : ∃ x, x = y ^^^ z := ⟨_, rfl⟩
      have hxx : bits .xor .u8 (y.toNat : Int) (z.toNat : Int) = (x.toNat : Int) := by rw [hx]; exact xor_bv y z
      have HN2 := hideIt (HN.out x hx)
      obtain ⟨m, hm⟩ : ∃ m, m = t + k := ⟨_, rfl⟩
      have hw : IntKind.i64.wrap ((t : Int) + (k : Int)) = (m : Int) := by rw [IntWalk.i64_in _ (by omega)]; omega
      rw [← hm] at hcA HN2
      have hki : (k : Int) < 4 := by omega
      have hml : (m : Int) < (l0.length : Int) := by omega
      have HM := hideIt hm
      clear hx HN hm hL
      go_wp2_with fail
      refine still_tail 14 (by kernel_rfl) (by kernel_rfl) ?_
      intro w3 hw3
      have qA : w3.cell? ⟨gb, m, none⟩ = some (bv y) := by rw [hw3]; exact hcA
      have qB : w3.cell? ⟨w.heap.size, k, none⟩ = some (bv z) := by rw [hw3]; exact hcB
      have HA3 := hideIt (show Blk w3 w.heap.size 34 (l2.map bv) by rw [hw3]; exact HA.out.1)
      have HG3 := hideIt (show Blk w3 gb 5 ((chg l0 l2 t k).map bv ++ sp) by rw [hw3]; exact HA.out.2.1)
      have HB3 := hideIt (show Below w.heap.size w w3 by rw [hw3]; exact HA.out.2.2.drew)
      have qF : w3.frozen? ⟨gb, m, none⟩ = false := HG3.out.free m
      clear hw3 hcA hcB
      simp only [List.take_succ_cons, List.take_zero, List.drop_succ_cons, List.drop_zero]
      repeat still_step
      refine wpStill_nil ?_
      go_wp2_with fail
      go_roundg (gk - 1)
      case measure => omega
      case rel =>
        refine ⟨k + 1, by omega, by go_num, HA3.out.store_other (by omega), ?_, HB3.out.setCell (p := ⟨gb, m, none⟩) (Nat.le_of_lt hgb2) _⟩
        rw [← HN2.out, ← set_byte _ _ _ _ (by rw [chg_len]; omega)]
        exact HG3.out.store m _
    · have hki : ¬ (k : Int) < 4 := by omega
      obtain rfl : k = 4 := by omega
      obtain ⟨L, hL⟩ : ∃ L, L = chg l0 l2 t 4 := ⟨_, rfl⟩
      have hLl : L.length = l0.length := by rw [hL, chg_len]
      have hne : crc L ≠ crc l0 := by
        obtain ⟨c0, c1, c2, c3, rfl⟩ : ∃ c0 c1 c2 c3, l2 = [c0, c1, c2, c3] := by
          have h4 := W2.out
          match l2, h4 with
          | [a, b, c, d], _ => exact ⟨a, b, c, d, rfl⟩
        rw [hL, chg_four l0 t (l0.length - (t + 4)) c0 c1 c2 c3 (by omega)]
        exact burst _ _ _ _ _ _ _ (by omega) (fun h => H2.out (by rw [h.1, h.2.1, h.2.2.1, h.2.2.2]))
      have HBE := hideIt HA.out.2.2
      have hsl := row_sl HA.out.2.1
      rw [← hL] at hsl
      have HS := hideIt (sanity_any wr (HT.out.keep HBE.out))
      have C1 := hideIt (fun (W : World) (hb : Below wr.heap.size wr W) => of_any (some ⟨gb, 0, none⟩) wr.heap.size cap L W (hsl.below hb) (by omega) ((HT.out.keep HBE.out).keep hb))
      have C2 := hideIt (fun (W : World) (hb : Below wr.heap.size wr W) => of_any A0 wr.heap.size c0 l0 W (((X0.out.below HBE.out).wide HBE.out.size).below hb) (by omega) ((HT.out.keep HBE.out).keep hb))
      rw [hLl] at C1
      have hnq := neq_c 23 _ _ hne
      generalize crc L = z1 at *
      generalize crc l0 = z2 at *
      clear HA hsl hL hLl hne
      go_wp2_with fail
      refine HS.out.mono ?_
      rintro e w3 ⟨rfl, hb⟩
      have HB3 := hideIt hb
      clear hb
      go_wp2_with fail
      refine (C1.out _ HB3.out).mono ?_
      rintro e w' ⟨rfl, rfl⟩
      go_wp2_with fail
      refine (C2.out _ HB3.out).mono ?_
      rintro e w' ⟨rfl, rfl⟩
      go_wp2_with fail
      go_ret
      exact ⟨rfl, HBE.out.trans (HB3.out.mono HBE.out.size)⟩

end Go.Proofs.YtdnbnbnfbfdflaaDoor.crcBursts
