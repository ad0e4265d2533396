/-
  The hash of a message, walked: the reference's Sum.
-/
import Derived.Test.YtkjnimcapjjfdaaDoorRSum
namespace Go.Proofs.YtkjnimcapjjfdaaDoor
open Go.RowKit
set_option linter.unusedVariables false
attribute [local go_sem] binOp_add_wv binOp_and_wv binOp_or_wv binOp_xor_wv binOp_shr_wv binOp_shl_wv unary_xor_wv run_convert_wv run_store_wv binOp_xor_all

set_option maxHeartbeats 2000000 in
set_option maxRecDepth 100000 in
theorem refSum_any (A : Option Addr) (B c : Nat) (l : List UInt8) (w : World) (hx : Sl w B A 1 l.length (l.map bv)) (hl : l.length ≤ 1000000000) (hB : B ≤ w.heap.size) (hT : Tab w 0) :
    Calls Tryd.prog 12 #[.slice A l.length c] w fun e w' => e = .returned (.agg ((sha l).map bv).toArray) ∧ Below w.heap.size w w' := by
  have HX := hideIt hx
  have HT := hideIt hT
  clear hx hT
  obtain ⟨z, hz⟩ : ∃ z, z = sha l := ⟨_, rfl⟩
  rw [← hz]
  have HZ := hideIt hz
  clear hz
  obtain ⟨M, hM⟩ : ∃ M, M = pad l := ⟨_, rfl⟩
  have hM64 : M.length % 64 = 0 := by rw [hM]; exact pad_mod l
  have hMle : M.length ≤ 2000000000 := by rw [hM, pad_len]; have := zs_lt l.length; omega
  have hMpos : 64 ≤ M.length := by have h1 : 9 ≤ M.length := (by rw [hM, pad_len]; omega); omega
  have HZ1 : Hid (z = outB (absorb (M.length / 64) hv0 M)) := by rw [HZ.out, hM]; exact rfl
  have HP := fun (W : World) (hX : Sl W B A 1 l.length (l.map bv)) (hW : B ≤ W.heap.size) => padded_any A B c l W hX hl hW
  rw [← hM] at HP
  have HP := hideIt HP
  clear hM
  go_enter Tryd.func12, Tryd.ntmps12
  go_wp2_with fail
  refine (HP.out _ (HX.out.below (((Below.refl _ _).alloc hB _).alloc (by simp; omega) _)) (by simp; omega)).mono ?_
  rintro e w1 ⟨v1, rfl, hown, hb1⟩
  have hs2 : ∀ (X Y : Obj), ((w.alloc X).alloc Y).heap.size = w.heap.size + 2 := by intros; simp
  obtain ⟨g4, c4, rfl, hg4, hg4l, hc4, hcell4⟩ := own_open hown (by omega)
  rw [hs2] at hg4
  have HM : Hid (Row w1 g4 (M.map bv)) := ⟨hg4l, hcell4⟩
  have HR1 : Hid (Blk w1 w.heap.size 24 (List.replicate 32 (.int .u8 0))) := ((Blk.new w 24 _).alloc _).kept hb1 (by rw [hs2]; omega)
  have HV1 : Hid (Blk w1 (w.heap.size + 1) 61 (stl hv0)) := (Blk.new2 w (.cells (List.replicate 32 (.int .u8 0)).toArray 24) 61 (stl hv0)).kept hb1 (by rw [hs2]; omega)
  have HB1 : Hid (Below w.heap.size w w1) := (((Below.refl _ _).alloc (Nat.le_refl _) _).alloc (by simp) _).trans (hb1.mono (by rw [hs2]; omega))
  have hsz1 : w.heap.size + 2 ≤ w1.heap.size := by have := hb1.size; rw [hs2] at this; exact this
  clear hown hb1 hcell4 hs2 hg4l
  go_wp2
  go_loopg [5] M.length (fun g s5 wr => ∃ q : Nat, g + 64 * q = M.length ∧ s5 = .int .i64 ((64 * q : Nat) : Int) ∧ Aside (Row wr g4 (M.map bv) ∧ Blk wr w.heap.size 24 (List.replicate 32 (.int .u8 0)) ∧ Blk wr (w.heap.size + 1) 61 (stl (absorb q hv0 (M.take (64 * q)))) ∧ Below w.heap.size w wr ∧ w.heap.size + 2 ≤ wr.heap.size))
  case atStart => exact ⟨0, rfl, rfl, HM, HR1, HV1, HB1, hsz1⟩
  case round =>
    obtain ⟨q, hg, rfl, HA⟩ := hrel
    by_cases hq : 64 * q < M.length
    · obtain ⟨s, hs⟩ : ∃ s, s = absorb q hv0 (M.take (64 * q)) := ⟨_, rfl⟩
      have hV := HA.out.2.2.1
      rw [← hs] at hV
      have HV := hideIt hV
      have HMr := hideIt HA.out.1
      have HRr := hideIt HA.out.2.1
      have HBr := hideIt HA.out.2.2.2.1
      have hszr := HA.out.2.2.2.2
      obtain ⟨Q, hQ⟩ : ∃ Q, Q = 64 * q := ⟨_, rfl⟩
      obtain ⟨A2, hcb, hS2⟩ := cut_both (P := Tryd.prog) (T := 22) (e := 5) (size := 1) Tryd.underlying22 (fun W => by kernel_rfl) (some ⟨g4, 0, none⟩) (n := M.length) (cap := c4) (k := Q) (h := Q + 64) (by omega) (by omega) hc4
      have hcut : ∀ W, (Instr.sliceAt 22 (.slice (some ⟨g4, 0, none⟩) M.length c4) (some (.int .i64 (Q : Int))) (some (.int .i64 ((Q : Int) + 64))) none).run Tryd.prog W = .ok (.slice A2 64 (c4 - Q)) W := fun W => by
        have := hcb W Q ((Q : Int) + 64) rfl (by omega)
        rw [show Q + 64 - Q = 64 by omega] at this
        exact this
      obtain ⟨b, hb⟩ : ∃ b, b = (M.drop (64 * q)).take 64 := ⟨_, rfl⟩
      have hchunk : Hid (Sl wr wr.heap.size A2 1 64 (b.map bv)) := by
        have := hS2 wr _ _ HMr.out.sl
        rw [show Q + 64 - Q = 64 by omega, Nat.mul_one, Nat.mul_one, ← List.map_drop, ← List.map_take, hQ, ← hb] at this
        exact this
      have HST : Hid (comp s b = absorb (q + 1) hv0 (M.take (64 * (q + 1)))) := by
        rw [absorb_snoc q _ _ (by omega), ← hs, hb]; exact rfl
      obtain ⟨ws, hws⟩ : ∃ ws, ws = wl b 64 := ⟨_, rfl⟩
      have HWL : Hid (ws.length = 64) := by rw [hws, wl_len]; exact rfl
      obtain ⟨L, hL⟩ : ∃ L, L = ws.map wv := ⟨_, rfl⟩
      have HLen : Hid (L.length = 64) := by rw [hL, List.length_map]; exact HWL.out
      have H1 : Hid (∀ u ∈ L, u.oneCell' = true) := by rw [hL]; exact wv_ones _
      have HWC : Hid (Calls Tryd.prog 33 #[.slice A2 64 (c4 - Q)] wr fun e w' => e = .returned (.agg L.toArray) ∧ Below wr.heap.size wr w') := by
        rw [hL, hws]; exact refWords_any A2 wr.heap.size (c4 - Q) b wr hchunk.out (by omega) (Nat.le_refl _)
      have HCO : Hid (comp s b = s.add (rnd ws s 64)) := by rw [hws]; exact rfl
      have HLW := hideIt hL
      have HQ := hideIt hQ
      have hQi : ((64 * q : Nat) : Int) = (Q : Int) := by omega
      have hQl : Q < M.length := by omega
      have hg4r := HMr.out.1
      rw [hQi]
      clear hs hV HA hS2 hcb hb hws hL hQ hchunk
      obtain ⟨w2, rfl⟩ : ∃ x, x = wr := ⟨wr, rfl⟩
      go_wp2_with (first
        | (go_at_call 33; refine HWC.out.mono ?_; rintro e w3 ⟨rfl, hb3⟩; have HB3 := hideIt hb3; have hsz3 := hb3.size; clear hb3)
        | ((with_reducible refine at_store ?_); refine wpList_put rfl 66 (.tmp 6) (.tmp 28) rfl w3.heap.size L _ _ rfl rfl (Blk.new w3 66 (List.replicate 64 (.int .u32 0))) (by rw [HLen.out]; kernel_rfl) (by rw [HLen.out]; rfl) H1.out ?_; intro w4 ht4 hb4; have HT4 := hideIt ht4; have HBL4 := hideIt hb4; have hsz4 : w4.heap.size = w3.heap.size + 1 := (by rw [ht4.size]; simp); have HSZ4 := hideIt hsz4; clear ht4 hb4; have hV4 : Blk w4 (w.heap.size + 1) 61 (stl s) := HT4.out.blk ((HV.out.kept HB3.out (by omega)).alloc _) (by omega); have HV4 := hideIt hV4; clear hV4 hsz4)
        | ((with_reducible refine at_load ?_); refine wpList_get rfl 61 (.tmp 3) rfl (w.heap.size + 1) (stl s) _ (.array 8 60) rfl HV4.out (by kernel_rfl) rfl (by kernel_rfl) ?_)
        | ((with_reducible refine at_store ?_); refine wpList_put rfl 61 (.tmp 7) (.tmp 29) rfl w4.heap.size (stl s) _ _ rfl rfl (Blk.new w4 61 (List.replicate 8 (.int .u32 0))) (by kernel_rfl) rfl (stl_ones s) ?_; intro w5 ht5 hb5; have HT5 := hideIt ht5; have HBL5 := hideIt hb5; clear ht5 hb5))
      have hsz4 := HSZ4.out
      have H6 : Hid (Blk w5 w3.heap.size 66 L) := HT5.out.blk (HBL4.out.alloc _) (by omega)
      have H1' : Hid (Blk w5 (w.heap.size + 1) 61 (stl s)) := HT5.out.blk (HV4.out.alloc _) (by omega)
      have H0 : Hid (Blk w5 w.heap.size 24 (List.replicate 32 (.int .u8 0))) := HT5.out.blk ((HT4.out.blk ((HRr.out.kept HB3.out (by omega)).alloc _) (by omega)).alloc _) (by omega)
      have HM5 : Hid (Row w5 g4 (M.map bv)) := ((((HMr.out.keep HB3.out).keep (below_new w3 _)).turned HT4.out (by omega)).keep (below_new w4 _)).turned HT5.out (by omega)
      have HB4 : Hid (Below w.heap.size w w4) := HT4.out.below ((HBr.out.trans (HB3.out.mono (by omega))).trans ((below_new w3 _).mono (by omega))) (by omega)
      have HB5 : Hid (Below w.heap.size w w5) := HT5.out.below (HB4.out.trans ((below_new w4 _).mono (by omega))) (by omega)
      have hsz5 : w5.heap.size = w4.heap.size + 1 := by rw [HT5.out.size]; simp
      obtain ⟨g6, hg6⟩ : ∃ g, g = w3.heap.size := ⟨_, rfl⟩
      obtain ⟨g7, hg7⟩ : ∃ g, g = w4.heap.size := ⟨_, rfl⟩
      have hg67 : w.heap.size + 2 ≤ g6 ∧ g4 < g6 ∧ g6 + 1 = g7 ∧ g7 + 1 = w5.heap.size := by omega
      rw [← hg6] at H6
      rw [← hg7] at HBL5
      rw [← hg6, ← hg7]
      obtain ⟨k1, k2, k3, k4⟩ := hg67
      have K1 : w.heap.size + 2 ≤ g6 ∧ g4 ≤ g6 ∧ g6 + 1 ≤ g7 ∧ g7 + 1 ≤ w5.heap.size := by omega
      obtain ⟨k5, k6, k7, k8⟩ := K1
      have K2 := hideIt (And.intro k3 k4)
      clear HT4 HT5 HB3 HV4 HBL4 HB4 HSZ4 HMr HRr HV HBr hsz4 hsz5 hg6 hg7 k3 k4 HWC
      obtain ⟨G1, rfl⟩ : ∃ x, x = gk := ⟨gk, rfl⟩
      have hG1 := hg
      go_loopg [8] 64 (fun g s8 wr => ∃ (k : Nat) (r : St), g + k = 64 ∧ s8 = .int .i64 k ∧ Hid (r = rnd ws s k) ∧ Hid (Blk wr g7 61 (stl r) ∧ Blk wr g6 66 L ∧ Blk wr (w.heap.size + 1) 61 (stl s) ∧ Blk wr w.heap.size 24 (List.replicate 32 (.int .u8 0)) ∧ Row wr g4 (M.map bv) ∧ Below w.heap.size w wr ∧ wr.heap.size = w5.heap.size))
      case atStart => exact ⟨0, s, rfl, rfl, rfl, HBL5.out, H6.out, H1'.out, H0.out, HM5.out, HB5.out, rfl⟩
      case round =>
        obtain ⟨k, r, hg, rfl, HR, HC⟩ := hrel
        by_cases hk : k < 64
        · obtain ⟨kv, hkv⟩ : ∃ x, x = kk.getD k 0 := ⟨_, rfl⟩
          obtain ⟨x, hxv⟩ : ∃ x, x = ws.getD k 0 := ⟨_, rfl⟩
          have hct : wr.cell? ⟨0, k, none⟩ = some (wv kv) := by rw [hkv]; exact ((HT.out.keep HC.out.2.2.2.2.2.1).2 k hk)
          have hcx : wr.cell? ⟨g6, k, none⟩ = some (wv x) := by
            rw [HC.out.2.1.cell, HLW.out, List.getElem?_map, hxv, List.getD_eq_getElem?_getD, List.getElem?_eq_getElem (by rw [HWL.out]; exact hk)]
            rfl
          have hc0 : wr.cell? ⟨g7, 0, none⟩ = some (wv r.a) := by rw [HC.out.1.cell]; rfl
          have hc1 : wr.cell? ⟨g7, 1, none⟩ = some (wv r.b) := by rw [HC.out.1.cell]; rfl
          have hc2 : wr.cell? ⟨g7, 2, none⟩ = some (wv r.c) := by rw [HC.out.1.cell]; rfl
          have hc3 : wr.cell? ⟨g7, 3, none⟩ = some (wv r.d) := by rw [HC.out.1.cell]; rfl
          have hc4 : wr.cell? ⟨g7, 4, none⟩ = some (wv r.e) := by rw [HC.out.1.cell]; rfl
          have hc5 : wr.cell? ⟨g7, 5, none⟩ = some (wv r.f) := by rw [HC.out.1.cell]; rfl
          have hc6 : wr.cell? ⟨g7, 6, none⟩ = some (wv r.g) := by rw [HC.out.1.cell]; rfl
          have hc7 : wr.cell? ⟨g7, 7, none⟩ = some (wv r.h) := by rw [HC.out.1.cell]; rfl
          have HN : Hid (r.step kv x = rnd ws s (k + 1)) := by rw [rnd_succ, hkv, hxv, ← HR.out]; exact rfl
          have hk64 : (k : Int) < 64 := by omega
          clear hkv hxv
          go_wp2_with fail
          go_quiet ((go_at_call 34; exact Reads.one (refTurn_q _ _ (by decide) (by decide))))
          go_wp2_with fail
          go_quiet ((go_at_call 34; exact Reads.two (refTurn_q _ _ (by decide) (by decide))))
          go_wp2_with (first
            | ((with_reducible refine at_build ?_); refine wpList_build_is rfl 61 _ rfl ([wv (xx r kv x + yy r), wv r.a, wv r.b, wv r.c, wv (r.d + xx r kv x), wv r.e, wv r.f, wv r.g]).toArray (by kernel_rfl) ?_)
            | ((with_reducible refine at_store ?_); refine wpList_put rfl 61 (.tmp 7) (.tmp 117) rfl g7 (stl (r.step kv x)) _ _ rfl rfl HC.out.1 (by kernel_rfl) rfl (stl_ones _) ?_; intro w6 ht6 hb6; have HT6 := hideIt ht6; have HBL6 := hideIt hb6; clear ht6 hb6))
          go_roundg (gk - 1)
          case measure => omega
          case rel => exact ⟨k + 1, r.step kv x, by omega, by go_num, HN.out, HBL6.out, HT6.out.blk HC.out.2.1 (by omega), HT6.out.blk HC.out.2.2.1 (by omega), HT6.out.blk HC.out.2.2.2.1 (by omega), HC.out.2.2.2.2.1.turned ⟨HT6.out.os, HT6.out.tape, HT6.out.output, HT6.out.size, HT6.out.block⟩ (by omega), HT6.out.below (HC.out.2.2.2.2.2.1.trans ⟨rfl, rfl, rfl, Nat.le_refl _, fun _ _ => rfl⟩) (by omega), HT6.out.size.trans HC.out.2.2.2.2.2.2⟩
        · have hk64 : k = 64 := by omega
          have HRS : Hid (s.add r = comp s b) := by rw [HCO.out, HR.out, hk64]; exact rfl
          have HK := hideIt hk64
          clear hk64 HR
          obtain ⟨w7, rfl⟩ : ∃ x, x = wr := ⟨wr, rfl⟩
          obtain ⟨G2, rfl⟩ : ∃ x, x = gk := ⟨gk, rfl⟩
          have hnk : ¬ ((k : Int) < 64) := by omega
          go_wp2
          go_loopg [11] 8 (fun g s11 wr => ∃ (i : Nat), g + i = 8 ∧ s11 = .int .i64 i ∧ Hid (Blk wr g7 61 (stl r) ∧ Blk wr (w.heap.size + 1) 61 ((mixL s r i).map wv) ∧ Blk wr w.heap.size 24 (List.replicate 32 (.int .u8 0)) ∧ Row wr g4 (M.map bv) ∧ Below w.heap.size w wr ∧ w.heap.size + 2 ≤ wr.heap.size))
          case atStart => exact ⟨0, rfl, rfl, HC.out.1, HC.out.2.2.1, HC.out.2.2.2.1, HC.out.2.2.2.2.1, HC.out.2.2.2.2.2.1, by have := HC.out.2.2.2.2.2.2; omega⟩
          case round =>
            obtain ⟨i, hg3, rfl, HD⟩ := hrel
            by_cases hi8 : i < 8
            · obtain ⟨u, hu⟩ : ∃ u, u = s.list.getD i 0 := ⟨_, rfl⟩
              obtain ⟨v, hv⟩ : ∃ v, v = r.list.getD i 0 := ⟨_, rfl⟩
              have hcu : wr.cell? ⟨w.heap.size + 1, i, none⟩ = some (wv u) := by rw [HD.out.2.1.cell, List.getElem?_map, mixL_at s r i hi8, ← hu]; rfl
              have hcv : wr.cell? ⟨g7, i, none⟩ = some (wv v) := by
                rw [HD.out.1.cell, show stl r = r.list.map wv from rfl, List.getElem?_map, list_at r i hi8, ← hv]; rfl
              have hfu : wr.frozen? ⟨w.heap.size + 1, i, none⟩ = false := HD.out.2.1.free _
              have HMX : Hid ((mixL s r i).set i (u + v) = mixL s r (i + 1)) := by rw [hu, hv]; exact mixL_step s r i hi8
              have hi0 : (i : Int) < 8 := by omega
              clear hu hv
              go_wp2_with fail
              refine still_tail 8 (by kernel_rfl) (by kernel_rfl) ?_
              intro w8 hw8
              have HW8 := hideIt hw8
              have hdu : w8.cell? ⟨w.heap.size + 1, i, none⟩ = some (wv u) := by rw [hw8]; exact hcu
              have hdv : w8.cell? ⟨g7, i, none⟩ = some (wv v) := by rw [hw8]; exact hcv
              have hdf : w8.frozen? ⟨w.heap.size + 1, i, none⟩ = false := by rw [hw8]; exact hfu
              clear hcu hcv hfu hw8
              simp only [List.take_succ_cons, List.take_zero, List.drop_succ_cons, List.drop_zero]
              repeat still_step
              refine wpStill_nil ?_
              go_wp2_with ((with_reducible refine at_store ?_); refine wpList_store_one rfl 60 (.tmp 130) (.tmp 129) rfl ⟨w.heap.size + 1, i, none⟩ (wv (u + v)) rfl rfl rfl (by kernel_rfl) (by rw [hdu]; rfl) hdf ?_)
              go_roundg (gk - 1)
              case measure => omega
              case rel =>
                refine ⟨i + 1, by omega, by go_num, Blk.store_other (by rw [HW8.out]; exact HD.out.1) (by omega), ?_, Blk.store_other (by rw [HW8.out]; exact HD.out.2.2.1) (by omega), Row.store (by rw [HW8.out]; exact HD.out.2.2.2.1) (by omega), by rw [HW8.out]; exact HD.out.2.2.2.2.1.drew.setCell (Nat.le_succ _) _, by rw [HW8.out]; simp; exact HD.out.2.2.2.2.2⟩
                have h := Blk.store (show Blk w8 (w.heap.size + 1) 61 _ by rw [HW8.out]; exact HD.out.2.1) i (wv (u + v))
                rw [← List.map_set, HMX.out] at h
                exact h
            · have hmx : Blk wr (w.heap.size + 1) 61 (stl (absorb (q + 1) hv0 (M.take (64 * (q + 1))))) := by
                have := HD.out.2.1
                rw [show i = 8 by omega] at this
                rw [← HST.out, ← HRS.out]; exact this
              have HMX := hideIt hmx
              have hni : ¬ ((i : Int) < 8) := by omega
              have hQ64 : Q = 64 * q := HQ.out
              have HQ2 : Hid ((64 * (q + 1) : Nat) = Q + 64) := by show 64 * (q + 1) = Q + 64; omega
              clear hmx hQ64
              go_wp2
              go_roundg (G1 - 64)
              case measure => have := HQ.out; omega
              case rel => exact ⟨q + 1, by have := HQ.out; omega, by rw [HQ2.out]; go_num, HD.out.2.2.2.1, HD.out.2.2.1, HMX.out, HD.out.2.2.2.2.1, HD.out.2.2.2.2.2⟩
    · have hq64 : M.length = 64 * q := by omega
      obtain ⟨s2, hs2⟩ : ∃ s, s = absorb (M.length / 64) hv0 M := ⟨_, rfl⟩
      rw [← hs2] at HZ1
      have hV2 : Blk wr (w.heap.size + 1) 61 (stl s2) := by
        have := HA.out.2.2.1
        rw [List.take_of_length_le (by omega)] at this
        rw [hs2, show M.length / 64 = q by omega]; exact this
      have HV2 := hideIt hV2
      have HR2 := hideIt HA.out.2.1
      have HB2 := hideIt HA.out.2.2.2.1
      have hsz2 := HA.out.2.2.2.2
      have HQ := hideIt hq64
      obtain ⟨Q, hQ⟩ : ∃ Q, Q = 64 * q := ⟨_, rfl⟩
      have hQi : ((64 * q : Nat) : Int) = (Q : Int) := by omega
      have hQl : ¬ ((Q : Int) < (M.length : Int)) := by omega
      rw [hQi]
      clear hs2 hV2 HA hq64 hQ hQi hq hg
      obtain ⟨w5, rfl⟩ : ∃ x, x = wr := ⟨wr, rfl⟩
      go_wp2
      go_loopg [13] 32 (fun g s13 wr => ∃ (i : Nat), g + i = 32 ∧ s13 = .int .i64 i ∧ Hid (Blk wr w5.heap.size 24 ((fillR s2 i).map bv) ∧ Blk wr (w.heap.size + 1) 61 (stl s2) ∧ Blk wr w.heap.size 24 (List.replicate 32 (.int .u8 0)) ∧ Below w.heap.size w wr))
      case atStart => exact ⟨0, rfl, rfl, Blk.new w5 24 (List.replicate 32 (.int .u8 0)), HV2.out.alloc _, HR2.out.alloc _, HB2.out.alloc (by omega) _⟩
      case round =>
        obtain ⟨i, hg, rfl, HD⟩ := hrel
        by_cases hi32 : i < 32
        · obtain ⟨v, hv⟩ : ∃ v, v = s2.list.getD (i / 4) 0 := ⟨_, rfl⟩
          have hcv : wr.cell? ⟨w.heap.size + 1, i / 4, none⟩ = some (wv v) := by
            rw [HD.out.2.1.cell, show stl s2 = s2.list.map wv from rfl, List.getElem?_map, list_at s2 (i / 4) (by omega), ← hv]; rfl
          have hco : wr.cell? ⟨w5.heap.size, i, none⟩ = some (.int .u8 0) := by rw [HD.out.1.cell, List.getElem?_map, fillR_at s2 i hi32]; rfl
          have hfo : wr.frozen? ⟨w5.heap.size, i, none⟩ = false := HD.out.1.free _
          have hsh : binOp .shr 60 (wv v) (.int .i64 (24 - 8 * ((i : Int) % 4))) = pure (wv (shr v (24 - 8 * (i % 4)))) := by
            rw [binOp_shr_wv _ _ _ _ (by omega) (by omega), show (24 - 8 * ((i : Int) % 4)).toNat = 24 - 8 * (i % 4) by omega]
          have HST2 : Hid ((fillR s2 i).set i (shr v (24 - 8 * (i % 4))).toUInt8 = fillR s2 (i + 1)) := fillR_step s2 i hi32 v hv
          have hi4 : i / 4 < 8 := by omega
          clear hv
          go_wp2
          go_roundg (gk - 1)
          case measure => omega
          case rel =>
            refine ⟨i + 1, by omega, by go_num, ?_, HD.out.2.1.store_other (by omega), HD.out.2.2.1.store_other (by omega), HD.out.2.2.2.setCell (by simp; omega) _⟩
            have h := HD.out.1.store i (bv (shr v (24 - 8 * (i % 4))).toUInt8)
            rw [← List.map_set, HST2.out] at h
            exact h
        · have hO : Blk wr w5.heap.size 24 (z.map bv) := by
            have := HD.out.1
            rw [show i = 32 by omega, fillR_end] at this
            rw [HZ1.out]; exact this
          have hzl : z.length = 32 := by rw [HZ1.out]; exact outB_len _
          have HO := hideIt hO
          have HZL := hideIt hzl
          have HR6 := hideIt HD.out.2.2.1
          have HB6 := hideIt HD.out.2.2.2
          clear hO hzl HD
          go_wp2_with (first
            | ((with_reducible refine at_load ?_); refine wpList_get rfl 24 (.tmp 12) rfl w5.heap.size (z.map bv) _ (.array 32 5) rfl HO.out (by kernel_rfl) rfl (by rw [List.length_map, HZL.out]; kernel_rfl) ?_)
            | ((with_reducible refine at_store ?_); refine wpList_put rfl 24 (.tmp 2) (.tmp 147) rfl w.heap.size (z.map bv) _ _ rfl rfl HR6.out (by rw [List.length_map, HZL.out]; kernel_rfl) (by rw [List.length_map, HZL.out]; rfl) (bv_one _) ?_; intro w9 ht9 hb9; have HT9 := hideIt ht9; have HBL9 := hideIt hb9; clear ht9 hb9))
          exact bodyPost_ret (ret_blk rfl HBL9.out (.array 32 5) rfl (by kernel_rfl) rfl (by rw [List.length_map, HZL.out]; kernel_rfl)) rfl ⟨rfl, HT9.out.below HB6.out (Nat.le_refl _)⟩

end Go.Proofs.YtkjnimcapjjfdaaDoor
