/-
  The walk of the law: For both fields and two rows of at most 8 units of one even length of at most 64 bytes, the combination of the sums of the units is the sum of the combinations, and scaling the units scales the combination.
-/
import Derived.Test.YtihepogccgcfkaaDoorFldE
import Derived.Test.YtihepogccgcfkaaDoorArgG
import Derived.Test.YtihepogccgcfkaaDoorRow5
namespace Go.Proofs.YtihepogccgcfkaaDoor.fieldCombineIsLinear
open Go.RowKit
set_option linter.unusedVariables false

set_option maxHeartbeats 3000000 in
set_option maxRecDepth 100000 in
theorem walk (b : Bool) (c : Nat) (A : Option Addr) (ca : Nat) (cs : List Nat) (D : Option Addr) (cd : Nat) (us : List (List UInt8)) (E : Option Addr) (ce : Nat) (vs : List (List UInt8)) (n : Int) (w : World) (hc : c < 65536) (xc : Sl w w.heap.size A 1 cs.length (cs.map uv)) (wc : ∀ n ∈ cs, n < 65536) (xu : Sl w w.heap.size D 1 us.length (us.map sv)) (xv : Sl w w.heap.size E 1 vs.length (vs.map sv)) (wn : -9223372036854775808 ≤ n ∧ n ≤ 9223372036854775807) (T1 : Tabs w) :
    Calls Tryd.prog 8 #[linV b c (.slice A cs.length ca) (.slice D us.length cd) (.slice E vs.length ce) n] w fun e w' => e = .returned (.bool true) ∧ Below w.heap.size w w' := by
  show Calls Tryd.prog 8 #[.agg #[.bool b, uv c, .slice A cs.length ca, .slice D us.length cd, .slice E vs.length ce, .int .i64 n]] w _
  obtain ⟨w1, hw1⟩ : ∃ x, x = w.alloc (.cells #[.bool b, uv c, .slice A cs.length ca, .slice D us.length cd, .slice E vs.length ce, .int .i64 n] 44) := ⟨_, rfl⟩
  have HB01 := hideIt (show Below w.heap.size w w1 by rw [hw1]; exact below_new _ _)
  have hblk : Blk w1 w.heap.size 44 [.bool b, uv c, .slice A cs.length ca, .slice D us.length cd, .slice E vs.length ce, .int .i64 n] := by rw [hw1]; exact Blk.new w _ _
  have hlt := hblk.lt
  have E0 := hideIt (show ∀ W, Below w1.heap.size w1 W → W.cell? ⟨w.heap.size, 0, none⟩ = some (.bool b) ∧ W.cell? ⟨w.heap.size, 1, none⟩ = some (uv c) ∧ W.cell? ⟨w.heap.size, 2, none⟩ = some (.slice A cs.length ca) ∧ W.cell? ⟨w.heap.size, 3, none⟩ = some (.slice D us.length cd) ∧ W.cell? ⟨w.heap.size, 4, none⟩ = some (.slice E vs.length ce) ∧ W.cell? ⟨w.heap.size, 5, none⟩ = some (.int .i64 n) from fun W hW => ⟨(hW.cell (p := ⟨_, 0, none⟩) hlt).trans (hblk.cell 0), (hW.cell (p := ⟨_, 1, none⟩) hlt).trans (hblk.cell 1), (hW.cell (p := ⟨_, 2, none⟩) hlt).trans (hblk.cell 2), (hW.cell (p := ⟨_, 3, none⟩) hlt).trans (hblk.cell 3), (hW.cell (p := ⟨_, 4, none⟩) hlt).trans (hblk.cell 4), (hW.cell (p := ⟨_, 5, none⟩) hlt).trans (hblk.cell 5)⟩)
  have HT := hideIt (T1.keep HB01.out)
  have HSA := hideIt (sanity_any w1 HT.out)
  have HW1 := hideIt hw1
  have XC := hideIt xc
  have XU := hideIt xu
  have XV := hideIt xv
  have HWC := hideIt wc
  have HC := hideIt hc
  have HWN := hideIt wn
  clear T1 hw1 hblk hlt xc xu xv wc hc wn
  obtain ⟨n0, hn0⟩ : ∃ n0, n0 = min (min cs.length us.length) vs.length := ⟨_, rfl⟩
  have HMIN := hideIt (show (if (vs.length : Int) < (if (us.length : Int) < (cs.length : Int) then (us.length : Int) else (cs.length : Int)) then (vs.length : Int) else (if (us.length : Int) < (cs.length : Int) then (us.length : Int) else (cs.length : Int))) = (n0 : Int) by split <;> split <;> omega)
  have HM0 := hideIt (show n0 ≤ cs.length ∧ n0 ≤ us.length ∧ n0 ≤ vs.length by omega)
  clear hn0
  by_cases h1 : n0 < 1
  · have t1 : decide ((n0 : Int) < 1) = true := by simp; omega
    clear XC XU XV HT HWN
    go_enter Tryd.func8, Tryd.ntmps8
    go_wp2_with (first | (go_at_call 9; rw [← HW1.out]; refine HSA.out.mono ?_; rintro e wa ⟨rfl, hb⟩; obtain ⟨e0, e1, e2, e3, e4, e5⟩ := E0.out wa hb; have HBA := hideIt hb; clear hb) | ((with_reducible refine at_min ?_); refine wpList_min3 rfl (.tmp 34) (.tmp 37) (.tmp 40) _ rfl _ _ _ (n0 : Int) rfl rfl rfl HMIN.out ?_))
    go_ret
    exact ⟨rfl, HB01.out.trans (HBA.out.mono HB01.out.size)⟩
  have f1 : decide ((n0 : Int) < 1) = false := by simp; omega
  by_cases h2 : 8 < n0
  · have t2 : decide ((8 : Int) < (n0 : Int)) = true := by simp; omega
    clear XC XU XV HT HWN
    go_enter Tryd.func8, Tryd.ntmps8
    go_wp2_with (first | (go_at_call 9; rw [← HW1.out]; refine HSA.out.mono ?_; rintro e wa ⟨rfl, hb⟩; obtain ⟨e0, e1, e2, e3, e4, e5⟩ := E0.out wa hb; have HBA := hideIt hb; clear hb) | ((with_reducible refine at_min ?_); refine wpList_min3 rfl (.tmp 34) (.tmp 37) (.tmp 40) _ rfl _ _ _ (n0 : Int) rfl rfl rfl HMIN.out ?_))
    go_ret
    exact ⟨rfl, HB01.out.trans (HBA.out.mono HB01.out.size)⟩
  have f2 : decide ((8 : Int) < (n0 : Int)) = false := by simp; omega
  by_cases h3 : n < 0
  · have t3 : decide (n < 0) = true := by simp; omega
    clear XC XU XV HT HWN
    go_enter Tryd.func8, Tryd.ntmps8
    go_wp2_with (first | (go_at_call 9; rw [← HW1.out]; refine HSA.out.mono ?_; rintro e wa ⟨rfl, hb⟩; obtain ⟨e0, e1, e2, e3, e4, e5⟩ := E0.out wa hb; have HBA := hideIt hb; clear hb) | ((with_reducible refine at_min ?_); refine wpList_min3 rfl (.tmp 34) (.tmp 37) (.tmp 40) _ rfl _ _ _ (n0 : Int) rfl rfl rfl HMIN.out ?_))
    go_ret
    exact ⟨rfl, HB01.out.trans (HBA.out.mono HB01.out.size)⟩
  have f3 : decide (n < 0) = false := by simp; omega
  by_cases h4 : 32 < n
  · have t4 : decide ((32 : Int) < n) = true := by simp; omega
    clear XC XU XV HT HWN
    go_enter Tryd.func8, Tryd.ntmps8
    go_wp2_with (first | (go_at_call 9; rw [← HW1.out]; refine HSA.out.mono ?_; rintro e wa ⟨rfl, hb⟩; obtain ⟨e0, e1, e2, e3, e4, e5⟩ := E0.out wa hb; have HBA := hideIt hb; clear hb) | ((with_reducible refine at_min ?_); refine wpList_min3 rfl (.tmp 34) (.tmp 37) (.tmp 40) _ rfl _ _ _ (n0 : Int) rfl rfl rfl HMIN.out ?_))
    go_ret
    exact ⟨rfl, HB01.out.trans (HBA.out.mono HB01.out.size)⟩
  have f4 : decide ((32 : Int) < n) = false := by simp; omega
  have HN8 := hideIt (show 1 ≤ n0 ∧ n0 ≤ 8 by omega)
  obtain ⟨nb, rfl⟩ : ∃ nb : Nat, n = (nb : Int) := ⟨n.toNat, by omega⟩
  have HNB := hideIt (show nb ≤ 32 by omega)
  obtain ⟨i3, hi3, hz3, hs3, hb3⟩ := info_parts (show (Tryd.prog.info? 3).map (fun i => (i.zero, i.size, i.bytes)) = some (some (Value.int .i64 0), 1, 8) by kernel_rfl)
  obtain ⟨i9, hi9, hz9, hs9, hb9⟩ := info_parts (show (Tryd.prog.info? 9).map (fun i => (i.zero, i.size, i.bytes)) = some (some (Value.string ⟨#[]⟩), 1, 16) by kernel_rfl)
  have HI3 := hideIt hi3
  have HZ3 := hideIt hz3
  have HS3 := hideIt hs3
  have HB3i := hideIt hb3
  have HI9 := hideIt hi9
  have HZ9 := hideIt hz9
  have HS9 := hideIt hs9
  have HB9i := hideIt hb9
  clear h1 h2 h3 h4 hi3 hz3 hs3 hb3 hi9 hz9 hs9 hb9
  cases b
  · have hm : Fm 8 := Or.inl rfl
    have hshl : binOp .shl 3 (.int .i64 1) (.int .i64 8) = pure (.int .i64 256) := nshl_one 3 8 (by decide)
    have hcv := fun W => conv_u16 c HC.out W
    have hrem : binOp .rem 3 (.int .i64 (c : Int)) (.int .i64 256) = pure (.int .i64 ((c % 256 : Nat) : Int)) := nrem 3 c 256 (by decide)
    have HC1 := hideIt (show c % 256 < 2 ^ 8 from Nat.mod_lt _ (by decide))
    have HNM := hideIt (show (2 * nb) % (8 / 8) = 0 by omega)
    go_enter Tryd.func8, Tryd.ntmps8
    go_wp2_with (first | (go_at_call 9; rw [← HW1.out]; refine HSA.out.mono ?_; rintro e wa ⟨rfl, hb⟩; obtain ⟨e0, e1, e2, e3, e4, e5⟩ := E0.out wa hb; have HBA := hideIt hb; clear hb) | ((with_reducible refine at_min ?_); refine wpList_min3 rfl (.tmp 34) (.tmp 37) (.tmp 40) _ rfl _ _ _ (n0 : Int) rfl rfl rfl HMIN.out ?_))
    go_quiet (fail)
    try rw [show ((c : Int) % 256) = ((c % 256 : Nat) : Int) by omega]
    go_wp2_with fail
    have HBQ := hideIt (below_drewN HBA.out nq)
    generalize wa.drewN nq = wq at *
    clear e0 e1 e2 e3 e4 e5 hcv hrem HBA HSA HW1 HMIN f1 f2 f3 f4
    generalize c % 256 = c1 at *
    go_loopg [7, 8, 9, 10, 11, 12] n0 (fun g s7 s8 s9 s10 s11 s12 wr => ∃ (k : Nat) (vv : Nat → Value), k + g = n0 ∧ s7 = vv 0 ∧ s8 = vv 1 ∧ s9 = vv 2 ∧ s10 = vv 3 ∧ s11 = vv 4 ∧ s12 = .int .i64 (k : Int) ∧ Aside (RN 5 ES wr w1.heap.size vv (fun _ => k) (LS 8 cs us vs (2 * nb) c1 k) ∧ Below w1.heap.size w1 wr))
    case atStart => exact ⟨0, fun _ => .slice none 0 0, by omega, rfl, rfl, rfl, rfl, rfl, rfl, (RN.none 5 ES _ _).same (fun _ _ => rfl) (fun i hi => LS_zero _ _ _ _ _ _ i hi), HBQ.out⟩
    case round =>
      obtain ⟨k, vv, hk, rfl, rfl, rfl, rfl, rfl, rfl, HA⟩ := hrel
      by_cases hlt : k < n0
      · have hkc : k < cs.length := by have := HM0.out; omega
        have hku : k < us.length := by have := HM0.out; omega
        have hkv : k < vs.length := by have := HM0.out; omega
        obtain ⟨bc, oc, uck, hA, hbc, huck, hcc⟩ := XC.out.at_ hkc
        rw [List.getElem?_map, List.getElem?_eq_getElem hkc] at huck
        obtain rfl := Option.some.inj huck
        obtain ⟨bu, ou, hD, hbu, hcu⟩ := XU.out.strs (by omega)
        obtain ⟨be, oe, hE, hbe, hce⟩ := XV.out.strs (by omega)
        subst hA hD hE
        have FC := hideIt (show ∀ W, Below w1.heap.size w1 W → W.cell? ⟨bc, oc + k, none⟩ = some (.int .u16 (cs[k] : Int)) from fun W hW => ((HB01.out.trans (hW.mono HB01.out.size)).cell (p := ⟨bc, oc + k, none⟩) hbc).trans hcc)
        have FU := hideIt (show ∀ W, Below w1.heap.size w1 W → W.cell? ⟨bu, ou + k, none⟩ = some (.string (str us[k])) from fun W hW => ((HB01.out.trans (hW.mono HB01.out.size)).cell (p := ⟨bu, ou + k, none⟩) hbu).trans (hcu k hku))
        have FV := hideIt (show ∀ W, Below w1.heap.size w1 W → W.cell? ⟨be, oe + k, none⟩ = some (.string (str vs[k])) from fun W hW => ((HB01.out.trans (hW.mono HB01.out.size)).cell (p := ⟨be, oe + k, none⟩) hbe).trans (hce k hkv))
        have NX0 := hideIt (LS_next0 8 cs us vs (2 * nb) c1 k hkc)
        have NX1 : Hid (LS 8 cs us vs (2 * nb) c1 (k + 1) 1 = LS 8 cs us vs (2 * nb) c1 k 1 ++ [.string (str (rowL us[k] (2 * nb)))]) := hideIt (LS_next1 8 cs us vs (2 * nb) c1 k hku)
        have NX2 : Hid (LS 8 cs us vs (2 * nb) c1 (k + 1) 2 = LS 8 cs us vs (2 * nb) c1 k 2 ++ [.string (str (rowL vs[k] (2 * nb)))]) := hideIt (LS_next2 8 cs us vs (2 * nb) c1 k hkv)
        have NX3 : Hid (LS 8 cs us vs (2 * nb) c1 (k + 1) 3 = LS 8 cs us vs (2 * nb) c1 k 3 ++ [.string (str (xr (rowL us[k] (2 * nb)) (rowL vs[k] (2 * nb))))]) := hideIt (LS_next3 8 cs us vs (2 * nb) c1 k hku hkv)
        have NX4 : Hid (LS 8 cs us vs (2 * nb) c1 (k + 1) 4 = LS 8 cs us vs (2 * nb) c1 k 4 ++ [.string (str (sc 8 c1 (rowL us[k] (2 * nb))))]) := hideIt (LS_next4 8 cs us vs (2 * nb) c1 k hku)
        have hck := HWC.out cs[k] (List.getElem_mem hkc)
        have CR1 := hideIt (fun W => row_any us[k] (2 * nb) (by have := HNB.out; omega) W)
        have CR2 := hideIt (fun W => row_any vs[k] (2 * nb) (by have := HNB.out; omega) W)
        have CX := hideIt (fun W => xorN (Below.refl W.heap.size W) (rowL us[k] (2 * nb)) (rowL vs[k] (2 * nb)) (by rw [rowL_len, rowL_len]) (by rw [rowL_len]; have := HNB.out; omega))
        have CS : Hid (∀ W, Below w1.heap.size w1 W → Calls Tryd.prog 24 #[.int .i64 8, .int .i64 (c1 : Int), .string (str (rowL us[k] (2 * nb)))] W fun e w' => e = .returned (.tuple #[.string (str (sc 8 c1 (rowL us[k] (2 * nb)))), .int .i64 0]) ∧ Below W.heap.size W w') := hideIt (fun W hW => scaleN (HT.out.keep hW) (Below.refl W.heap.size W) hm HC1.out (rowL us[k] (2 * nb)) (by rw [rowL_len]; exact HNM.out) (by rw [rowL_len]; have := HNB.out; omega))
        have hmul2 : binOp .mul 3 (.int .i64 2) (.int .i64 (nb : Int)) = pure (.int .i64 ((2 * nb : Nat) : Int)) := nmul 3 2 nb (by have := HNB.out; omega)
        have hinc := inc_c 3 k (by have := HN8.out; omega)
        have hki : (k : Int) < (n0 : Int) := by omega
        have hkci : (k : Int) < (cs.length : Int) := by omega
        have hkui : (k : Int) < (us.length : Int) := by omega
        have hkvi : (k : Int) < (vs.length : Int) := by omega
        have HK := hideIt (show k < 8 by have := HN8.out; omega)
        generalize str (sc 8 c1 (rowL us[k] (2 * nb))) = sz at *
        generalize str (xr (rowL us[k] (2 * nb)) (rowL vs[k] (2 * nb))) = sy at *
        generalize str (rowL us[k] (2 * nb)) = sx at *
        generalize str (rowL vs[k] (2 * nb)) = ty at *
        generalize str us[k] = su at *
        generalize str vs[k] = tu at *
        change Hid (LS 8 cs us vs (2 * nb) c1 (k + 1) 0 = LS 8 cs us vs (2 * nb) c1 k 0 ++ [iv ((cs[k] % 256 : Nat) : Int)]) at NX0
        generalize cs[k] = ck at *
        have hcv := fun W => conv_u16 ck hck W
        have hrem : binOp .rem 3 (.int .i64 (ck : Int)) (.int .i64 256) = pure (.int .i64 ((ck % 256 : Nat) : Int)) := nrem 3 ck 256 (by decide)
        generalize ck % 256 = q at *
        generalize 2 * nb = N at *
        obtain ⟨hcA, hcC⟩ := And.intro (E0.out wr HA.out.2).2.2.1 (FC.out wr HA.out.2)
        clear hck hbc hcc hbu hcu hbe hce hkc hku hkv huck
        go_wp2_with fail
        refine loads_begin_n 13 [(12, fun W' => W'.cell? ⟨w.heap.size, 2, none⟩ = some (.slice (some ⟨bc, oc, none⟩) cs.length ca)), (12, fun W' => W'.cell? ⟨bc, oc + k, none⟩ = some (.int .u16 (ck : Int)))] rfl (by kernel_rfl) ?_
        refine wpAnyL_move (oi := ⟨some 72, _, _, _, _, _⟩) 0 ?_ rfl (by kernel_rfl) (by kernel_rfl) (by kernel_rfl) (by kernel_rfl) (fun _ _ _ h => h) (by kernel_rfl) ?_ (Hooks.add hcA (Hooks.add hcC (Hooks.nil _ _))) ?_
        rotate_left
        · intro W'; go_simp; first | done | with_reducible rfl
        try simp only [Act.put]
        try simp only [List.setIfInBounds_toArray]
        try simp only [List.set_cons_succ]
        try simp only [List.set_cons_zero]
        refine wpAnyL_move (oi := ⟨some 73, _, _, _, _, _⟩) 1 ?_ rfl (by kernel_rfl) (by kernel_rfl) (by kernel_rfl) (by kernel_rfl) (fun _ _ _ h => h) (by kernel_rfl) ?_ (Hooks.add hcA (Hooks.add hcC (Hooks.nil _ _))) ?_
        rotate_left
        · intro W'; go_simp; first | done | with_reducible rfl
        try simp only [Act.put]
        try simp only [List.setIfInBounds_toArray]
        try simp only [List.set_cons_succ]
        try simp only [List.set_cons_zero]
        try simp only [Act.put]
        try simp only [List.setIfInBounds_toArray]
        try simp only [List.set_cons_succ]
        try simp only [List.set_cons_zero]
        refine wpAnyL_take (oi := ⟨some 74, _, _, _, _, _⟩) 2 12 (.slice (some ⟨bc, oc, none⟩) cs.length ca) _ rfl (by kernel_rfl) (by kernel_rfl) (by kernel_rfl) (by kernel_rfl) (by kernel_rfl) (by kernel_rfl) (.head _) (fun _ _ _ h => h) (by kernel_rfl) (fun W' hW' => by (try dsimp only at hW'); go_simp) (Hooks.add hcA (Hooks.add hcC (Hooks.nil _ _))) ?_
        try simp only [Act.put]
        try simp only [List.setIfInBounds_toArray]
        try simp only [List.set_cons_succ]
        try simp only [List.set_cons_zero]
        refine wpAnyL_move (oi := ⟨some 75, _, _, _, _, _⟩) 3 ?_ rfl (by kernel_rfl) (by kernel_rfl) (by kernel_rfl) (by kernel_rfl) (fun _ _ _ h => h) (by kernel_rfl) ?_ (Hooks.add hcA (Hooks.add hcC (Hooks.nil _ _))) ?_
        rotate_left
        · intro W'; go_simp; first | done | with_reducible rfl
        try simp only [Act.put]
        try simp only [List.setIfInBounds_toArray]
        try simp only [List.set_cons_succ]
        try simp only [List.set_cons_zero]
        refine wpAnyL_move (oi := ⟨some 76, _, _, _, _, _⟩) 4 ?_ rfl (by kernel_rfl) (by kernel_rfl) (by kernel_rfl) (by kernel_rfl) (fun _ _ _ h => h) (by kernel_rfl) ?_ (Hooks.add hcA (Hooks.add hcC (Hooks.nil _ _))) ?_
        rotate_left
        · intro W'; go_simp; first | done | with_reducible rfl
        try simp only [Act.put]
        try simp only [List.setIfInBounds_toArray]
        try simp only [List.set_cons_succ]
        try simp only [List.set_cons_zero]
        try simp only [Act.put]
        try simp only [List.setIfInBounds_toArray]
        try simp only [List.set_cons_succ]
        try simp only [List.set_cons_zero]
        refine wpAnyL_take (oi := ⟨some 77, _, _, _, _, _⟩) 5 12 (.int .u16 (ck : Int)) _ rfl (by kernel_rfl) (by kernel_rfl) (by kernel_rfl) (by kernel_rfl) (by kernel_rfl) (by kernel_rfl) (.tail _ (.head _)) (fun _ _ _ h => h) (by kernel_rfl) (fun W' hW' => by (try dsimp only at hW'); go_simp) (Hooks.add hcA (Hooks.add hcC (Hooks.nil _ _))) ?_
        try simp only [Act.put]
        try simp only [List.setIfInBounds_toArray]
        try simp only [List.set_cons_succ]
        try simp only [List.set_cons_zero]
        refine wpAnyL_move (oi := ⟨some 78, _, _, _, _, _⟩) 6 ?_ rfl (by kernel_rfl) (by kernel_rfl) (by kernel_rfl) (by kernel_rfl) (fun _ _ _ h => h) (by kernel_rfl) ?_ (Hooks.add hcA (Hooks.add hcC (Hooks.nil _ _))) ?_
        rotate_left
        · intro W'; go_simp; first | done | with_reducible rfl
        try simp only [Act.put]
        try simp only [List.setIfInBounds_toArray]
        try simp only [List.set_cons_succ]
        try simp only [List.set_cons_zero]
        refine wpAnyL_move (oi := ⟨some 79, _, _, _, _, _⟩) 7 ?_ rfl (by kernel_rfl) (by kernel_rfl) (by kernel_rfl) (by kernel_rfl) (fun _ _ _ h => h) (by kernel_rfl) ?_ (Hooks.add hcA (Hooks.add hcC (Hooks.nil _ _))) ?_
        rotate_left
        · intro W'; go_simp; first | done | with_reducible rfl
        try simp only [Act.put]
        try simp only [List.setIfInBounds_toArray]
        try simp only [List.set_cons_succ]
        try simp only [List.set_cons_zero]
        refine wpAnyL_move (oi := ⟨some 80, _, _, _, _, _⟩) 8 ?_ rfl (by kernel_rfl) (by kernel_rfl) (by kernel_rfl) (by kernel_rfl) (fun _ _ _ h => h) (by kernel_rfl) ?_ (Hooks.add hcA (Hooks.add hcC (Hooks.nil _ _))) ?_
        rotate_left
        · intro W'; go_simp; first | done | with_reducible rfl
        try simp only [Act.put]
        try simp only [List.setIfInBounds_toArray]
        try simp only [List.set_cons_succ]
        try simp only [List.set_cons_zero]
        refine wpAnyL_move (oi := ⟨some 81, _, _, _, _, _⟩) 9 ?_ rfl (by kernel_rfl) (by kernel_rfl) (by kernel_rfl) (by kernel_rfl) (fun _ _ _ h => h) (by kernel_rfl) ?_ (Hooks.add hcA (Hooks.add hcC (Hooks.nil _ _))) ?_
        rotate_left
        · intro W'; go_simp; first | done | with_reducible rfl
        try simp only [Act.put]
        try simp only [List.setIfInBounds_toArray]
        try simp only [List.set_cons_succ]
        try simp only [List.set_cons_zero]
        try simp only [Act.put]
        try simp only [List.setIfInBounds_toArray]
        try simp only [List.set_cons_succ]
        try simp only [List.set_cons_zero]
        obtain ⟨w2, hw2⟩ : ∃ W, W = wr.drew := ⟨_, rfl⟩
        have HR2 := hideIt (show RN 5 ES w2 w1.heap.size vv (fun _ => k) (LS 8 cs us vs N c1 k) by rw [hw2]; exact HA.out.1.below ((Below.refl _ _).drew))
        have HB2 := hideIt (show Below w1.heap.size w1 w2 by rw [hw2]; exact HA.out.2.drew)
        rw [← hw2]
        have HQ : Hid (∀ W' bb, Below w1.heap.size w1 W' → Hooks [(12, fun W' => W'.cell? ⟨w.heap.size, 2, none⟩ = some (.slice (some ⟨bc, oc, none⟩) cs.length ca)), (12, fun W' => W'.cell? ⟨bc, oc + k, none⟩ = some (.int .u16 (ck : Int)))] bb W') := hideIt (fun W' bb hb' => Hooks.add (E0.out W' hb').2.2.1 (Hooks.add (FC.out W' hb') (Hooks.nil _ _)))
        clear hw2 hcA hcC
        refine wpAnyL_one (o := ⟨some 82, _, _, _, _, _⟩) 10 (by kernel_rfl) rfl (fun K hK => ?_)
        go_wp2_with fail
        refine hK _ _ (HQ.out _ _ (HB2.out.trans ((below_new w2 _).mono HB2.out.size))) ?_
        clear hK K
        refine wpAnyL_one (o := ⟨some 83, _, _, _, _, _⟩) 11 (by kernel_rfl) rfl (fun K hK => ?_)
        go_wp2_with ((with_reducible refine at_append ?_); refine wpList_append_own_at _ rfl (.tmp 72) (.tmp 82) 29 rfl w1.heap.size 3 i3 (.int .i64 0) 1 8 Tryd.underlying29 HI3.out HZ3.out HS3.out HB3i.out rfl (by decide) (vv 0) k _ rfl ((HR2.out.below (below_new w2 _)).own 0 (by decide)) ⟨w2.heap.size, 0, none⟩ 1 1 [iv (q : Int)] rfl rfl (cell_one_new _ _ _) (ones_one rfl) (by unfold maxLen; have := HK.out; omega) (by have := HK.out; omega) (Nat.le_trans HB2.out.size (below_new w2 _).size) ?_; intro v0 w3 ho hg hn hat; have HRw3 := hideIt ((HR2.out.below (below_new w2 _)).step 0 (by decide) hg ho hat); have HBw3 := hideIt (below_grown (HB2.out.trans ((below_new w2 _).mono HB2.out.size)) ((HR2.out.below (below_new w2 _)).own 0 (by decide)) (Nat.le_refl _) (Nat.le_trans HB2.out.size (below_new w2 _).size) hg); clear ho hg hn hat)
        refine hK _ _ (HQ.out _ _ HBw3.out) ?_
        clear hK K
        refine loads_tail 12 (by kernel_rfl) (by kernel_rfl) (by kernel_rfl) (by kernel_rfl) ?_
        simp only [List.drop_succ_cons, List.drop_zero]
        go_wp2_with fail
        have GU := hideIt (fun W (hW : Below w3.heap.size w3 W) => (E0.out W (HBw3.out.trans (hW.mono HBw3.out.size))).2.2.2.1)
        have GV := hideIt (fun W (hW : Below w3.heap.size w3 W) => (E0.out W (HBw3.out.trans (hW.mono HBw3.out.size))).2.2.2.2.1)
        have GN := hideIt (fun W (hW : Below w3.heap.size w3 W) => (E0.out W (HBw3.out.trans (hW.mono HBw3.out.size))).2.2.2.2.2)
        have GX := hideIt (fun W (hW : Below w3.heap.size w3 W) => FU.out W (HBw3.out.trans (hW.mono HBw3.out.size)))
        have GY := hideIt (fun W (hW : Below w3.heap.size w3 W) => FV.out W (HBw3.out.trans (hW.mono HBw3.out.size)))
        refine wp_region_quiet_below (w0 := w3) (B := w3.heap.size) (by kernel_rfl) (by kernel_rfl) (Below.refl _ _) ?_
        try simp only [Act.put]
        try simp only [List.setIfInBounds_toArray]
        try simp only [List.set_cons_succ]
        try simp only [List.set_cons_zero]
        go_big_quiet_step ((first | (intro _; rfl) | (intro _; exact ⟨rfl, rfl⟩)))
        go_big_quiet_want
        refine quiet_run (.slice (some ⟨bu, ou, none⟩) us.length cd) (fun W hW => by simp [execOp, GU W hW, Result.andThen, go_sem]) ?_
        go_big_quiet_on
        try simp only [Act.put]
        try simp only [List.setIfInBounds_toArray]
        try simp only [List.set_cons_succ]
        try simp only [List.set_cons_zero]
        go_big_quiet_step ((first | (intro _; rfl) | (intro _; exact ⟨rfl, rfl⟩)))
        go_big_quiet_step ((first | (intro _; rfl) | (intro _; exact ⟨rfl, rfl⟩)))
        go_big_quiet_want
        refine quiet_run (.string su) (fun W hW => by simp [execOp, GX W hW, Result.andThen, go_sem]) ?_
        go_big_quiet_on
        try simp only [Act.put]
        try simp only [List.setIfInBounds_toArray]
        try simp only [List.set_cons_succ]
        try simp only [List.set_cons_zero]
        go_big_quiet_step ((first | (intro _; rfl) | (intro _; exact ⟨rfl, rfl⟩)))
        go_big_quiet_want
        refine quiet_run (.int .i64 (nb : Int)) (fun W hW => by simp [execOp, GN W hW, Result.andThen, go_sem]) ?_
        go_big_quiet_on
        try simp only [Act.put]
        try simp only [List.setIfInBounds_toArray]
        try simp only [List.set_cons_succ]
        try simp only [List.set_cons_zero]
        go_big_quiet_step ((first | (intro _; rfl) | (intro _; exact ⟨rfl, rfl⟩)))
        go_big_quiet_step ((intro hb; refine (CR1.out _).mono ?_; rintro x wc ⟨rfl, hb2⟩; exact ⟨rfl, hb.trans (hb2.mono hb.size)⟩))
        repeat (go_big_quiet_step ((first | (intro _; rfl) | (intro _; exact ⟨rfl, rfl⟩))))
        refine wpQuiet_nil ?_
        intro w4 hb
        have HRw4 := hideIt (HRw3.out.below hb)
        have HBw4 := hideIt (HBw3.out.trans (hb.mono HBw3.out.size))
        clear hb GU GV GN GX GY
        go_wp2_with fail
        have GU := hideIt (fun W (hW : Below w4.heap.size w4 W) => (E0.out W (HBw4.out.trans (hW.mono HBw4.out.size))).2.2.2.1)
        have GV := hideIt (fun W (hW : Below w4.heap.size w4 W) => (E0.out W (HBw4.out.trans (hW.mono HBw4.out.size))).2.2.2.2.1)
        have GN := hideIt (fun W (hW : Below w4.heap.size w4 W) => (E0.out W (HBw4.out.trans (hW.mono HBw4.out.size))).2.2.2.2.2)
        have GX := hideIt (fun W (hW : Below w4.heap.size w4 W) => FU.out W (HBw4.out.trans (hW.mono HBw4.out.size)))
        have GY := hideIt (fun W (hW : Below w4.heap.size w4 W) => FV.out W (HBw4.out.trans (hW.mono HBw4.out.size)))
        refine wp_region_quiet_below (w0 := w4) (B := w4.heap.size) (by kernel_rfl) (by kernel_rfl) (Below.refl _ _) ?_
        try simp only [Act.put]
        try simp only [List.setIfInBounds_toArray]
        try simp only [List.set_cons_succ]
        try simp only [List.set_cons_zero]
        go_big_quiet_step ((first | (intro _; rfl) | (intro _; exact ⟨rfl, rfl⟩)))
        go_big_quiet_want
        refine quiet_run (.slice (some ⟨be, oe, none⟩) vs.length ce) (fun W hW => by simp [execOp, GV W hW, Result.andThen, go_sem]) ?_
        go_big_quiet_on
        try simp only [Act.put]
        try simp only [List.setIfInBounds_toArray]
        try simp only [List.set_cons_succ]
        try simp only [List.set_cons_zero]
        go_big_quiet_step ((first | (intro _; rfl) | (intro _; exact ⟨rfl, rfl⟩)))
        go_big_quiet_step ((first | (intro _; rfl) | (intro _; exact ⟨rfl, rfl⟩)))
        go_big_quiet_want
        refine quiet_run (.string tu) (fun W hW => by simp [execOp, GY W hW, Result.andThen, go_sem]) ?_
        go_big_quiet_on
        try simp only [Act.put]
        try simp only [List.setIfInBounds_toArray]
        try simp only [List.set_cons_succ]
        try simp only [List.set_cons_zero]
        go_big_quiet_step ((first | (intro _; rfl) | (intro _; exact ⟨rfl, rfl⟩)))
        go_big_quiet_want
        refine quiet_run (.int .i64 (nb : Int)) (fun W hW => by simp [execOp, GN W hW, Result.andThen, go_sem]) ?_
        go_big_quiet_on
        try simp only [Act.put]
        try simp only [List.setIfInBounds_toArray]
        try simp only [List.set_cons_succ]
        try simp only [List.set_cons_zero]
        go_big_quiet_step ((first | (intro _; rfl) | (intro _; exact ⟨rfl, rfl⟩)))
        go_big_quiet_step ((intro hb; refine (CR2.out _).mono ?_; rintro x wc ⟨rfl, hb2⟩; exact ⟨rfl, hb.trans (hb2.mono hb.size)⟩))
        repeat (go_big_quiet_step ((first | (intro _; rfl) | (intro _; exact ⟨rfl, rfl⟩))))
        refine wpQuiet_nil ?_
        intro w5 hb
        have HRw5 := hideIt (HRw4.out.below hb)
        have HBw5 := hideIt (HBw4.out.trans (hb.mono HBw4.out.size))
        clear hb GU GV GN GX GY
        go_wp2_with (first
          | (go_at_call 26; refine (CX.out _).mono ?_; rintro e w6 ⟨rfl, hb⟩; have HRw6 := hideIt (HRw5.out.below hb); have HBw6 := hideIt (HBw5.out.trans (hb.mono HBw5.out.size)); clear hb)
          | (go_at_call 24; refine (CS.out _ HBw6.out).mono ?_; rintro e w7 ⟨rfl, hb⟩; have HRw7 := hideIt (HRw6.out.below hb); have HBw7 := hideIt (HBw6.out.trans (hb.mono HBw6.out.size)); clear hb)
          | ((with_reducible refine at_append ?_); refine wpList_append_own_at _ rfl (.tmp 115) (.tmp 117) 30 rfl w1.heap.size 9 i9 (.string ⟨#[]⟩) 1 16 Tryd.underlying30 HI9.out HZ9.out HS9.out HB9i.out rfl (by decide) (vv 1) k _ rfl ((HRw7.out.below (below_new w7 _)).own 1 (by decide)) ⟨w7.heap.size, 0, none⟩ 1 1 [.string sx] rfl rfl (cell_one_new _ _ _) (ones_one rfl) (by unfold maxLen; have := HK.out; omega) (by have := HK.out; omega) (Nat.le_trans HBw7.out.size (below_new w7 _).size) ?_; intro v1 w8 ho hg hn hat; have HRw8 := hideIt ((HRw7.out.below (below_new w7 _)).step 1 (by decide) hg ho hat); have HBw8 := hideIt (below_grown (HBw7.out.trans ((below_new w7 _).mono HBw7.out.size)) ((HRw7.out.below (below_new w7 _)).own 1 (by decide)) (Nat.le_refl _) (Nat.le_trans HBw7.out.size (below_new w7 _).size) hg); clear ho hg hn hat)
          | ((with_reducible refine at_append ?_); refine wpList_append_own_at _ rfl (.tmp 119) (.tmp 121) 30 rfl w1.heap.size 9 i9 (.string ⟨#[]⟩) 1 16 Tryd.underlying30 HI9.out HZ9.out HS9.out HB9i.out rfl (by decide) (vv 2) k _ rfl ((HRw8.out.below (below_new w8 _)).own 2 (by decide)) ⟨w8.heap.size, 0, none⟩ 1 1 [.string ty] rfl rfl (cell_one_new _ _ _) (ones_one rfl) (by unfold maxLen; have := HK.out; omega) (by have := HK.out; omega) (Nat.le_trans HBw8.out.size (below_new w8 _).size) ?_; intro v2 w9 ho hg hn hat; have HRw9 := hideIt ((HRw8.out.below (below_new w8 _)).step 2 (by decide) hg ho hat); have HBw9 := hideIt (below_grown (HBw8.out.trans ((below_new w8 _).mono HBw8.out.size)) ((HRw8.out.below (below_new w8 _)).own 2 (by decide)) (Nat.le_refl _) (Nat.le_trans HBw8.out.size (below_new w8 _).size) hg); clear ho hg hn hat)
          | ((with_reducible refine at_append ?_); refine wpList_append_own_at _ rfl (.tmp 123) (.tmp 125) 30 rfl w1.heap.size 9 i9 (.string ⟨#[]⟩) 1 16 Tryd.underlying30 HI9.out HZ9.out HS9.out HB9i.out rfl (by decide) (vv 3) k _ rfl ((HRw9.out.below (below_new w9 _)).own 3 (by decide)) ⟨w9.heap.size, 0, none⟩ 1 1 [.string sy] rfl rfl (cell_one_new _ _ _) (ones_one rfl) (by unfold maxLen; have := HK.out; omega) (by have := HK.out; omega) (Nat.le_trans HBw9.out.size (below_new w9 _).size) ?_; intro v3 wA ho hg hn hat; have HRwA := hideIt ((HRw9.out.below (below_new w9 _)).step 3 (by decide) hg ho hat); have HBwA := hideIt (below_grown (HBw9.out.trans ((below_new w9 _).mono HBw9.out.size)) ((HRw9.out.below (below_new w9 _)).own 3 (by decide)) (Nat.le_refl _) (Nat.le_trans HBw9.out.size (below_new w9 _).size) hg); clear ho hg hn hat)
          | ((with_reducible refine at_append ?_); refine wpList_append_own_at _ rfl (.tmp 127) (.tmp 129) 30 rfl w1.heap.size 9 i9 (.string ⟨#[]⟩) 1 16 Tryd.underlying30 HI9.out HZ9.out HS9.out HB9i.out rfl (by decide) (vv 4) k _ rfl ((HRwA.out.below (below_new wA _)).own 4 (by decide)) ⟨wA.heap.size, 0, none⟩ 1 1 [.string sz] rfl rfl (cell_one_new _ _ _) (ones_one rfl) (by unfold maxLen; have := HK.out; omega) (by have := HK.out; omega) (Nat.le_trans HBwA.out.size (below_new wA _).size) ?_; intro v4 wB ho hg hn hat; have HRwB := hideIt ((HRwA.out.below (below_new wA _)).step 4 (by decide) hg ho hat); have HBwB := hideIt (below_grown (HBwA.out.trans ((below_new wA _).mono HBwA.out.size)) ((HRwA.out.below (below_new wA _)).own 4 (by decide)) (Nat.le_refl _) (Nat.le_trans HBwA.out.size (below_new wA _).size) hg); clear ho hg hn hat))
        go_roundg (gk - 1)
        case measure => omega
        case rel =>
          refine ⟨k + 1, upd (upd (upd (upd (upd vv 0 v0) 1 v1) 2 v2) 3 v3) 4 v4, by omega, rfl, rfl, rfl, rfl, rfl, by go_num, HRwB.out.same (five rfl rfl rfl rfl rfl) (five ?_ ?_ ?_ ?_ ?_), HBwB.out⟩
          · exact NX0.out.symm
          · exact NX1.out.symm
          · exact NX2.out.symm
          · exact NX3.out.symm
          · exact NX4.out.symm
      · obtain rfl : k = n0 := by omega
        clear hlt
        have hki : ¬ (k : Int) < (k : Int) := by omega
        obtain ⟨A0, g0, q0, _, _⟩ := own_form (HA.out.1.own 0 (by decide))
        obtain ⟨A1, g1, q1, _, _⟩ := own_form (HA.out.1.own 1 (by decide))
        obtain ⟨A2, g2, q2, _, _⟩ := own_form (HA.out.1.own 2 (by decide))
        obtain ⟨A3, g3, q3, _, _⟩ := own_form (HA.out.1.own 3 (by decide))
        obtain ⟨A4, g4, q4, _, _⟩ := own_form (HA.out.1.own 4 (by decide))
        have s0 : Sl wr wr.heap.size A0 1 k (((modQ 8 cs).take k).map iv) := by have h := HA.out.1.own 0 (by decide); rw [q0] at h; exact Sl.of_own h
        have s1 : Sl wr wr.heap.size A1 1 k (((rows us (2 * nb)).take k).map sv) := by have h := HA.out.1.own 1 (by decide); rw [q1] at h; exact Sl.of_own h
        have s2 : Sl wr wr.heap.size A2 1 k (((rows vs (2 * nb)).take k).map sv) := by have h := HA.out.1.own 2 (by decide); rw [q2] at h; exact Sl.of_own h
        have s3 : Sl wr wr.heap.size A3 1 k (((List.zipWith xr (rows us (2 * nb)) (rows vs (2 * nb))).take k).map sv) := by have h := HA.out.1.own 3 (by decide); rw [q3] at h; exact Sl.of_own h
        have s4 : Sl wr wr.heap.size A4 1 k ((((rows us (2 * nb)).map (sc 8 c1)).take k).map sv) := by have h := HA.out.1.own 4 (by decide); rw [q4] at h; exact Sl.of_own h
        rw [List.take_zipWith] at s3
        rw [← List.map_take] at s4
        have hm0 := HM0.out
        have hn8 := HN8.out
        have hnb := HNB.out
        have l0 : ((modQ 8 cs).take k).length = k := by rw [List.length_take]; unfold modQ; rw [List.length_map]; omega
        have l1 : ((rows us (2 * nb)).take k).length = k := by rw [List.length_take]; unfold rows; rw [List.length_map]; omega
        have l2 : ((rows vs (2 * nb)).take k).length = k := by rw [List.length_take]; unfold rows; rw [List.length_map]; omega
        have v0 : ∀ c ∈ (modQ 8 cs).take k, vd ((8 : Nat) : Int) c = true := fun c hc => modQ_ok hm cs c (List.mem_of_mem_take hc)
        have u1 : ∀ u ∈ (rows us (2 * nb)).take k, u.length = 2 * nb := fun u hu => rows_len us _ u (List.mem_of_mem_take hu)
        have u2 : ∀ u ∈ (rows vs (2 * nb)).take k, u.length = 2 * nb := fun u hu => rows_len vs _ u (List.mem_of_mem_take hu)
        generalize (modQ 8 cs).take k = kc at *
        generalize (rows us (2 * nb)).take k = ka at *
        generalize (rows vs (2 * nb)).take k = kb at *
        have hTw := HT.out.keep HA.out.2
        have l3 : (List.zipWith xr ka kb).length = k := by rw [List.length_zipWith]; omega
        have u3 := mem_zipWith_len u1 u2
        have l4 : (ka.map (sc 8 c1)).length = k := by rw [List.length_map, l1]
        have u4 : ∀ u ∈ ka.map (sc 8 c1), u.length = 2 * nb := fun u hu => by
          obtain ⟨x, hx, rfl⟩ := List.mem_map.1 hu
          rw [sc_len hm c1 x (by unfold whl; rw [u1 x hx]; exact HNM.out), u1 x hx]
        have e3 := lin_sum hm HNM.out kc ka kb (by omega) (by omega) (by omega) u1 u2
        have e4 := lin_scale hm HNM.out c1 kc ka (by omega) (by omega) u1
        have lp : (cmbK 8 kc ka ka.length).length = 2 * nb := by
          have hu := ul_same u1 (by omega)
          rw [cmbK_len hm kc ka (fun u h => by rw [hu]; exact u1 u h) (by rw [hu]; exact HNM.out), hu]
        have lq : (cmbK 8 kc kb kb.length).length = 2 * nb := by
          have hu := ul_same u2 (by omega)
          rw [cmbK_len hm kc kb (fun u h => by rw [hu]; exact u2 u h) (by rw [hu]; exact HNM.out), hu]
        have C1 : Hid (∀ W, Below wr.heap.size wr W → Calls Tryd.prog 22 #[.int .i64 8, .slice A0 k g0, .slice A1 k g1] W fun e w' => e = .returned (.tuple #[.string (str (cmbK 8 kc ka ka.length)), .int .i64 0]) ∧ Below wr.heap.size wr w') := hideIt (fun W hW => combineN hTw hW hm HNM.out (by omega) A0 g0 kc A1 g1 ka k (by omega) (by omega) l0 l1 v0 u1 ((s0.below hW).wide hW.size) ((s1.below hW).wide hW.size))
        have C2 : Hid (∀ W, Below wr.heap.size wr W → Calls Tryd.prog 22 #[.int .i64 8, .slice A0 k g0, .slice A2 k g2] W fun e w' => e = .returned (.tuple #[.string (str (cmbK 8 kc kb kb.length)), .int .i64 0]) ∧ Below wr.heap.size wr w') := hideIt (fun W hW => combineN hTw hW hm HNM.out (by omega) A0 g0 kc A2 g2 kb k (by omega) (by omega) l0 l2 v0 u2 ((s0.below hW).wide hW.size) ((s2.below hW).wide hW.size))
        have C3 : Hid (∀ W, Below wr.heap.size wr W → Calls Tryd.prog 22 #[.int .i64 8, .slice A0 k g0, .slice A3 k g3] W fun e w' => e = .returned (.tuple #[.string (str (xr (cmbK 8 kc ka ka.length) (cmbK 8 kc kb kb.length))), .int .i64 0]) ∧ Below wr.heap.size wr w') := hideIt (fun W hW => by
          have h := combineN hTw hW hm HNM.out (by omega) A0 g0 kc A3 g3 (List.zipWith xr ka kb) k (by omega) (by omega) l0 l3 v0 u3 ((s0.below hW).wide hW.size) ((s3.below hW).wide hW.size)
          rw [e3] at h
          exact h)
        have C4 : Hid (∀ W, Below wr.heap.size wr W → Calls Tryd.prog 22 #[.int .i64 8, .slice A0 k g0, .slice A4 k g4] W fun e w' => e = .returned (.tuple #[.string (str (sc 8 c1 (cmbK 8 kc ka ka.length))), .int .i64 0]) ∧ Below wr.heap.size wr w') := hideIt (fun W hW => by
          have h := combineN hTw hW hm HNM.out (by omega) A0 g0 kc A4 g4 (ka.map (sc 8 c1)) k (by omega) (by omega) l0 l4 v0 u4 ((s0.below hW).wide hW.size) ((s4.below hW).wide hW.size)
          rw [e4] at h
          exact h)
        have CX := hideIt (fun W (hW : Below wr.heap.size wr W) => xorN hW (cmbK 8 kc ka ka.length) (cmbK 8 kc kb kb.length) (by rw [lp, lq]) (by rw [lp]; omega))
        have CS : Hid (∀ W, Below wr.heap.size wr W → Calls Tryd.prog 24 #[.int .i64 8, .int .i64 (c1 : Int), .string (str (cmbK 8 kc ka ka.length))] W fun e w' => e = .returned (.tuple #[.string (str (sc 8 c1 (cmbK 8 kc ka ka.length))), .int .i64 0]) ∧ Below wr.heap.size wr w') := hideIt (fun W hW => scaleN hTw hW hm HC1.out (cmbK 8 kc ka ka.length) (by rw [lp]; exact HNM.out) (by rw [lp]; omega))
        generalize str (sc 8 c1 (cmbK 8 kc ka ka.length)) = st at *
        generalize str (xr (cmbK 8 kc ka ka.length) (cmbK 8 kc kb kb.length)) = sr at *
        generalize str (cmbK 8 kc ka ka.length) = sp at *
        generalize str (cmbK 8 kc kb kb.length) = sq at *
        have hq1 : binOp .eql 9 (.string sr) (.string sr) = pure (.bool true) := by rw [binOp_string_eql]; simp
        have hq2 : binOp .eql 9 (.string st) (.string st) = pure (.bool true) := by rw [binOp_string_eql]; simp
        have HBX := hideIt (Below.refl wr.heap.size wr)
        rw [q0, q1, q2, q3, q4]
        clear s0 s1 s2 s3 s4 l0 l1 l2 l3 l4 v0 u1 u2 u3 u4 e3 e4 lp lq hTw hm0 hn8 hnb q0 q1 q2 q3 q4
        go_wp2_with (first
          | (go_at_call 22; refine (C1.out _ HBX.out).mono ?_; rintro e w' ⟨rfl, hb⟩; clear HBX C1; have HBX := hideIt hb; clear hb)
          | (go_at_call 22; refine (C2.out _ HBX.out).mono ?_; rintro e w' ⟨rfl, hb⟩; clear HBX C2; have HBX := hideIt hb; clear hb)
          | (go_at_call 22; refine (C3.out _ HBX.out).mono ?_; rintro e w' ⟨rfl, hb⟩; clear HBX C3; have HBX := hideIt hb; clear hb)
          | (go_at_call 22; refine (C4.out _ HBX.out).mono ?_; rintro e w' ⟨rfl, hb⟩; clear HBX C4; have HBX := hideIt hb; clear hb)
          | (go_at_call 26; refine (CX.out _ HBX.out).mono ?_; rintro e w' ⟨rfl, hb⟩; clear HBX CX; have HBX := hideIt hb; clear hb)
          | (go_at_call 24; refine (CS.out _ HBX.out).mono ?_; rintro e w' ⟨rfl, hb⟩; clear HBX CS; have HBX := hideIt hb; clear hb))
        go_ret
        exact ⟨rfl, HB01.out.trans ((HA.out.2.trans (HBX.out.mono HA.out.2.size)).mono HB01.out.size)⟩
  · have hm : Fm 16 := Or.inr rfl
    have hshl : binOp .shl 3 (.int .i64 1) (.int .i64 16) = pure (.int .i64 65536) := nshl_one 3 16 (by decide)
    have hcv := fun W => conv_u16 c HC.out W
    have hrem : binOp .rem 3 (.int .i64 (c : Int)) (.int .i64 65536) = pure (.int .i64 ((c % 65536 : Nat) : Int)) := nrem 3 c 65536 (by decide)
    have HC1 := hideIt (show c % 65536 < 2 ^ 16 from Nat.mod_lt _ (by decide))
    have HNM := hideIt (show (2 * nb) % (16 / 8) = 0 by omega)
    go_enter Tryd.func8, Tryd.ntmps8
    go_wp2_with (first | (go_at_call 9; rw [← HW1.out]; refine HSA.out.mono ?_; rintro e wa ⟨rfl, hb⟩; obtain ⟨e0, e1, e2, e3, e4, e5⟩ := E0.out wa hb; have HBA := hideIt hb; clear hb) | ((with_reducible refine at_min ?_); refine wpList_min3 rfl (.tmp 34) (.tmp 37) (.tmp 40) _ rfl _ _ _ (n0 : Int) rfl rfl rfl HMIN.out ?_))
    go_quiet (fail)
    try rw [show ((c : Int) % 65536) = ((c % 65536 : Nat) : Int) by omega]
    go_wp2_with fail
    have HBQ := hideIt (below_drewN HBA.out nq)
    generalize wa.drewN nq = wq at *
    clear e0 e1 e2 e3 e4 e5 hcv hrem HBA HSA HW1 HMIN f1 f2 f3 f4
    generalize c % 65536 = c1 at *
    go_loopg [7, 8, 9, 10, 11, 12] n0 (fun g s7 s8 s9 s10 s11 s12 wr => ∃ (k : Nat) (vv : Nat → Value), k + g = n0 ∧ s7 = vv 0 ∧ s8 = vv 1 ∧ s9 = vv 2 ∧ s10 = vv 3 ∧ s11 = vv 4 ∧ s12 = .int .i64 (k : Int) ∧ Aside (RN 5 ES wr w1.heap.size vv (fun _ => k) (LS 16 cs us vs (2 * nb) c1 k) ∧ Below w1.heap.size w1 wr))
    case atStart => exact ⟨0, fun _ => .slice none 0 0, by omega, rfl, rfl, rfl, rfl, rfl, rfl, (RN.none 5 ES _ _).same (fun _ _ => rfl) (fun i hi => LS_zero _ _ _ _ _ _ i hi), HBQ.out⟩
    case round =>
      obtain ⟨k, vv, hk, rfl, rfl, rfl, rfl, rfl, rfl, HA⟩ := hrel
      by_cases hlt : k < n0
      · have hkc : k < cs.length := by have := HM0.out; omega
        have hku : k < us.length := by have := HM0.out; omega
        have hkv : k < vs.length := by have := HM0.out; omega
        obtain ⟨bc, oc, uck, hA, hbc, huck, hcc⟩ := XC.out.at_ hkc
        rw [List.getElem?_map, List.getElem?_eq_getElem hkc] at huck
        obtain rfl := Option.some.inj huck
        obtain ⟨bu, ou, hD, hbu, hcu⟩ := XU.out.strs (by omega)
        obtain ⟨be, oe, hE, hbe, hce⟩ := XV.out.strs (by omega)
        subst hA hD hE
        have FC := hideIt (show ∀ W, Below w1.heap.size w1 W → W.cell? ⟨bc, oc + k, none⟩ = some (.int .u16 (cs[k] : Int)) from fun W hW => ((HB01.out.trans (hW.mono HB01.out.size)).cell (p := ⟨bc, oc + k, none⟩) hbc).trans hcc)
        have FU := hideIt (show ∀ W, Below w1.heap.size w1 W → W.cell? ⟨bu, ou + k, none⟩ = some (.string (str us[k])) from fun W hW => ((HB01.out.trans (hW.mono HB01.out.size)).cell (p := ⟨bu, ou + k, none⟩) hbu).trans (hcu k hku))
        have FV := hideIt (show ∀ W, Below w1.heap.size w1 W → W.cell? ⟨be, oe + k, none⟩ = some (.string (str vs[k])) from fun W hW => ((HB01.out.trans (hW.mono HB01.out.size)).cell (p := ⟨be, oe + k, none⟩) hbe).trans (hce k hkv))
        have NX0 := hideIt (LS_next0 16 cs us vs (2 * nb) c1 k hkc)
        have NX1 : Hid (LS 16 cs us vs (2 * nb) c1 (k + 1) 1 = LS 16 cs us vs (2 * nb) c1 k 1 ++ [.string (str (rowL us[k] (2 * nb)))]) := hideIt (LS_next1 16 cs us vs (2 * nb) c1 k hku)
        have NX2 : Hid (LS 16 cs us vs (2 * nb) c1 (k + 1) 2 = LS 16 cs us vs (2 * nb) c1 k 2 ++ [.string (str (rowL vs[k] (2 * nb)))]) := hideIt (LS_next2 16 cs us vs (2 * nb) c1 k hkv)
        have NX3 : Hid (LS 16 cs us vs (2 * nb) c1 (k + 1) 3 = LS 16 cs us vs (2 * nb) c1 k 3 ++ [.string (str (xr (rowL us[k] (2 * nb)) (rowL vs[k] (2 * nb))))]) := hideIt (LS_next3 16 cs us vs (2 * nb) c1 k hku hkv)
        have NX4 : Hid (LS 16 cs us vs (2 * nb) c1 (k + 1) 4 = LS 16 cs us vs (2 * nb) c1 k 4 ++ [.string (str (sc 16 c1 (rowL us[k] (2 * nb))))]) := hideIt (LS_next4 16 cs us vs (2 * nb) c1 k hku)
        have hck := HWC.out cs[k] (List.getElem_mem hkc)
        have CR1 := hideIt (fun W => row_any us[k] (2 * nb) (by have := HNB.out; omega) W)
        have CR2 := hideIt (fun W => row_any vs[k] (2 * nb) (by have := HNB.out; omega) W)
        have CX := hideIt (fun W => xorN (Below.refl W.heap.size W) (rowL us[k] (2 * nb)) (rowL vs[k] (2 * nb)) (by rw [rowL_len, rowL_len]) (by rw [rowL_len]; have := HNB.out; omega))
        have CS : Hid (∀ W, Below w1.heap.size w1 W → Calls Tryd.prog 24 #[.int .i64 16, .int .i64 (c1 : Int), .string (str (rowL us[k] (2 * nb)))] W fun e w' => e = .returned (.tuple #[.string (str (sc 16 c1 (rowL us[k] (2 * nb)))), .int .i64 0]) ∧ Below W.heap.size W w') := hideIt (fun W hW => scaleN (HT.out.keep hW) (Below.refl W.heap.size W) hm HC1.out (rowL us[k] (2 * nb)) (by rw [rowL_len]; exact HNM.out) (by rw [rowL_len]; have := HNB.out; omega))
        have hmul2 : binOp .mul 3 (.int .i64 2) (.int .i64 (nb : Int)) = pure (.int .i64 ((2 * nb : Nat) : Int)) := nmul 3 2 nb (by have := HNB.out; omega)
        have hinc := inc_c 3 k (by have := HN8.out; omega)
        have hki : (k : Int) < (n0 : Int) := by omega
        have hkci : (k : Int) < (cs.length : Int) := by omega
        have hkui : (k : Int) < (us.length : Int) := by omega
        have hkvi : (k : Int) < (vs.length : Int) := by omega
        have HK := hideIt (show k < 8 by have := HN8.out; omega)
        generalize str (sc 16 c1 (rowL us[k] (2 * nb))) = sz at *
        generalize str (xr (rowL us[k] (2 * nb)) (rowL vs[k] (2 * nb))) = sy at *
        generalize str (rowL us[k] (2 * nb)) = sx at *
        generalize str (rowL vs[k] (2 * nb)) = ty at *
        generalize str us[k] = su at *
        generalize str vs[k] = tu at *
        change Hid (LS 16 cs us vs (2 * nb) c1 (k + 1) 0 = LS 16 cs us vs (2 * nb) c1 k 0 ++ [iv ((cs[k] % 65536 : Nat) : Int)]) at NX0
        generalize cs[k] = ck at *
        have hcv := fun W => conv_u16 ck hck W
        have hrem : binOp .rem 3 (.int .i64 (ck : Int)) (.int .i64 65536) = pure (.int .i64 ((ck % 65536 : Nat) : Int)) := nrem 3 ck 65536 (by decide)
        generalize ck % 65536 = q at *
        generalize 2 * nb = N at *
        obtain ⟨hcA, hcC⟩ := And.intro (E0.out wr HA.out.2).2.2.1 (FC.out wr HA.out.2)
        clear hck hbc hcc hbu hcu hbe hce hkc hku hkv huck
        go_wp2_with fail
        refine loads_begin_n 13 [(12, fun W' => W'.cell? ⟨w.heap.size, 2, none⟩ = some (.slice (some ⟨bc, oc, none⟩) cs.length ca)), (12, fun W' => W'.cell? ⟨bc, oc + k, none⟩ = some (.int .u16 (ck : Int)))] rfl (by kernel_rfl) ?_
        refine wpAnyL_move (oi := ⟨some 72, _, _, _, _, _⟩) 0 ?_ rfl (by kernel_rfl) (by kernel_rfl) (by kernel_rfl) (by kernel_rfl) (fun _ _ _ h => h) (by kernel_rfl) ?_ (Hooks.add hcA (Hooks.add hcC (Hooks.nil _ _))) ?_
        rotate_left
        · intro W'; go_simp; first | done | with_reducible rfl
        try simp only [Act.put]
        try simp only [List.setIfInBounds_toArray]
        try simp only [List.set_cons_succ]
        try simp only [List.set_cons_zero]
        refine wpAnyL_move (oi := ⟨some 73, _, _, _, _, _⟩) 1 ?_ rfl (by kernel_rfl) (by kernel_rfl) (by kernel_rfl) (by kernel_rfl) (fun _ _ _ h => h) (by kernel_rfl) ?_ (Hooks.add hcA (Hooks.add hcC (Hooks.nil _ _))) ?_
        rotate_left
        · intro W'; go_simp; first | done | with_reducible rfl
        try simp only [Act.put]
        try simp only [List.setIfInBounds_toArray]
        try simp only [List.set_cons_succ]
        try simp only [List.set_cons_zero]
        try simp only [Act.put]
        try simp only [List.setIfInBounds_toArray]
        try simp only [List.set_cons_succ]
        try simp only [List.set_cons_zero]
        refine wpAnyL_take (oi := ⟨some 74, _, _, _, _, _⟩) 2 12 (.slice (some ⟨bc, oc, none⟩) cs.length ca) _ rfl (by kernel_rfl) (by kernel_rfl) (by kernel_rfl) (by kernel_rfl) (by kernel_rfl) (by kernel_rfl) (.head _) (fun _ _ _ h => h) (by kernel_rfl) (fun W' hW' => by (try dsimp only at hW'); go_simp) (Hooks.add hcA (Hooks.add hcC (Hooks.nil _ _))) ?_
        try simp only [Act.put]
        try simp only [List.setIfInBounds_toArray]
        try simp only [List.set_cons_succ]
        try simp only [List.set_cons_zero]
        refine wpAnyL_move (oi := ⟨some 75, _, _, _, _, _⟩) 3 ?_ rfl (by kernel_rfl) (by kernel_rfl) (by kernel_rfl) (by kernel_rfl) (fun _ _ _ h => h) (by kernel_rfl) ?_ (Hooks.add hcA (Hooks.add hcC (Hooks.nil _ _))) ?_
        rotate_left
        · intro W'; go_simp; first | done | with_reducible rfl
        try simp only [Act.put]
        try simp only [List.setIfInBounds_toArray]
        try simp only [List.set_cons_succ]
        try simp only [List.set_cons_zero]
        refine wpAnyL_move (oi := ⟨some 76, _, _, _, _, _⟩) 4 ?_ rfl (by kernel_rfl) (by kernel_rfl) (by kernel_rfl) (by kernel_rfl) (fun _ _ _ h => h) (by kernel_rfl) ?_ (Hooks.add hcA (Hooks.add hcC (Hooks.nil _ _))) ?_
        rotate_left
        · intro W'; go_simp; first | done | with_reducible rfl
        try simp only [Act.put]
        try simp only [List.setIfInBounds_toArray]
        try simp only [List.set_cons_succ]
        try simp only [List.set_cons_zero]
        try simp only [Act.put]
        try simp only [List.setIfInBounds_toArray]
        try simp only [List.set_cons_succ]
        try simp only [List.set_cons_zero]
        refine wpAnyL_take (oi := ⟨some 77, _, _, _, _, _⟩) 5 12 (.int .u16 (ck : Int)) _ rfl (by kernel_rfl) (by kernel_rfl) (by kernel_rfl) (by kernel_rfl) (by kernel_rfl) (by kernel_rfl) (.tail _ (.head _)) (fun _ _ _ h => h) (by kernel_rfl) (fun W' hW' => by (try dsimp only at hW'); go_simp) (Hooks.add hcA (Hooks.add hcC (Hooks.nil _ _))) ?_
        try simp only [Act.put]
        try simp only [List.setIfInBounds_toArray]
        try simp only [List.set_cons_succ]
        try simp only [List.set_cons_zero]
        refine wpAnyL_move (oi := ⟨some 78, _, _, _, _, _⟩) 6 ?_ rfl (by kernel_rfl) (by kernel_rfl) (by kernel_rfl) (by kernel_rfl) (fun _ _ _ h => h) (by kernel_rfl) ?_ (Hooks.add hcA (Hooks.add hcC (Hooks.nil _ _))) ?_
        rotate_left
        · intro W'; go_simp; first | done | with_reducible rfl
        try simp only [Act.put]
        try simp only [List.setIfInBounds_toArray]
        try simp only [List.set_cons_succ]
        try simp only [List.set_cons_zero]
        refine wpAnyL_move (oi := ⟨some 79, _, _, _, _, _⟩) 7 ?_ rfl (by kernel_rfl) (by kernel_rfl) (by kernel_rfl) (by kernel_rfl) (fun _ _ _ h => h) (by kernel_rfl) ?_ (Hooks.add hcA (Hooks.add hcC (Hooks.nil _ _))) ?_
        rotate_left
        · intro W'; go_simp; first | done | with_reducible rfl
        try simp only [Act.put]
        try simp only [List.setIfInBounds_toArray]
        try simp only [List.set_cons_succ]
        try simp only [List.set_cons_zero]
        refine wpAnyL_move (oi := ⟨some 80, _, _, _, _, _⟩) 8 ?_ rfl (by kernel_rfl) (by kernel_rfl) (by kernel_rfl) (by kernel_rfl) (fun _ _ _ h => h) (by kernel_rfl) ?_ (Hooks.add hcA (Hooks.add hcC (Hooks.nil _ _))) ?_
        rotate_left
        · intro W'; go_simp; first | done | with_reducible rfl
        try simp only [Act.put]
        try simp only [List.setIfInBounds_toArray]
        try simp only [List.set_cons_succ]
        try simp only [List.set_cons_zero]
        refine wpAnyL_move (oi := ⟨some 81, _, _, _, _, _⟩) 9 ?_ rfl (by kernel_rfl) (by kernel_rfl) (by kernel_rfl) (by kernel_rfl) (fun _ _ _ h => h) (by kernel_rfl) ?_ (Hooks.add hcA (Hooks.add hcC (Hooks.nil _ _))) ?_
        rotate_left
        · intro W'; go_simp; first | done | with_reducible rfl
        try simp only [Act.put]
        try simp only [List.setIfInBounds_toArray]
        try simp only [List.set_cons_succ]
        try simp only [List.set_cons_zero]
        try simp only [Act.put]
        try simp only [List.setIfInBounds_toArray]
        try simp only [List.set_cons_succ]
        try simp only [List.set_cons_zero]
        obtain ⟨w2, hw2⟩ : ∃ W, W = wr.drew := ⟨_, rfl⟩
        have HR2 := hideIt (show RN 5 ES w2 w1.heap.size vv (fun _ => k) (LS 16 cs us vs N c1 k) by rw [hw2]; exact HA.out.1.below ((Below.refl _ _).drew))
        have HB2 := hideIt (show Below w1.heap.size w1 w2 by rw [hw2]; exact HA.out.2.drew)
        rw [← hw2]
        have HQ : Hid (∀ W' bb, Below w1.heap.size w1 W' → Hooks [(12, fun W' => W'.cell? ⟨w.heap.size, 2, none⟩ = some (.slice (some ⟨bc, oc, none⟩) cs.length ca)), (12, fun W' => W'.cell? ⟨bc, oc + k, none⟩ = some (.int .u16 (ck : Int)))] bb W') := hideIt (fun W' bb hb' => Hooks.add (E0.out W' hb').2.2.1 (Hooks.add (FC.out W' hb') (Hooks.nil _ _)))
        clear hw2 hcA hcC
        refine wpAnyL_one (o := ⟨some 82, _, _, _, _, _⟩) 10 (by kernel_rfl) rfl (fun K hK => ?_)
        go_wp2_with fail
        refine hK _ _ (HQ.out _ _ (HB2.out.trans ((below_new w2 _).mono HB2.out.size))) ?_
        clear hK K
        refine wpAnyL_one (o := ⟨some 83, _, _, _, _, _⟩) 11 (by kernel_rfl) rfl (fun K hK => ?_)
        go_wp2_with ((with_reducible refine at_append ?_); refine wpList_append_own_at _ rfl (.tmp 72) (.tmp 82) 29 rfl w1.heap.size 3 i3 (.int .i64 0) 1 8 Tryd.underlying29 HI3.out HZ3.out HS3.out HB3i.out rfl (by decide) (vv 0) k _ rfl ((HR2.out.below (below_new w2 _)).own 0 (by decide)) ⟨w2.heap.size, 0, none⟩ 1 1 [iv (q : Int)] rfl rfl (cell_one_new _ _ _) (ones_one rfl) (by unfold maxLen; have := HK.out; omega) (by have := HK.out; omega) (Nat.le_trans HB2.out.size (below_new w2 _).size) ?_; intro v0 w3 ho hg hn hat; have HRw3 := hideIt ((HR2.out.below (below_new w2 _)).step 0 (by decide) hg ho hat); have HBw3 := hideIt (below_grown (HB2.out.trans ((below_new w2 _).mono HB2.out.size)) ((HR2.out.below (below_new w2 _)).own 0 (by decide)) (Nat.le_refl _) (Nat.le_trans HB2.out.size (below_new w2 _).size) hg); clear ho hg hn hat)
        refine hK _ _ (HQ.out _ _ HBw3.out) ?_
        clear hK K
        refine loads_tail 12 (by kernel_rfl) (by kernel_rfl) (by kernel_rfl) (by kernel_rfl) ?_
        simp only [List.drop_succ_cons, List.drop_zero]
        go_wp2_with fail
        have GU := hideIt (fun W (hW : Below w3.heap.size w3 W) => (E0.out W (HBw3.out.trans (hW.mono HBw3.out.size))).2.2.2.1)
        have GV := hideIt (fun W (hW : Below w3.heap.size w3 W) => (E0.out W (HBw3.out.trans (hW.mono HBw3.out.size))).2.2.2.2.1)
        have GN := hideIt (fun W (hW : Below w3.heap.size w3 W) => (E0.out W (HBw3.out.trans (hW.mono HBw3.out.size))).2.2.2.2.2)
        have GX := hideIt (fun W (hW : Below w3.heap.size w3 W) => FU.out W (HBw3.out.trans (hW.mono HBw3.out.size)))
        have GY := hideIt (fun W (hW : Below w3.heap.size w3 W) => FV.out W (HBw3.out.trans (hW.mono HBw3.out.size)))
        refine wp_region_quiet_below (w0 := w3) (B := w3.heap.size) (by kernel_rfl) (by kernel_rfl) (Below.refl _ _) ?_
        try simp only [Act.put]
        try simp only [List.setIfInBounds_toArray]
        try simp only [List.set_cons_succ]
        try simp only [List.set_cons_zero]
        go_big_quiet_step ((first | (intro _; rfl) | (intro _; exact ⟨rfl, rfl⟩)))
        go_big_quiet_want
        refine quiet_run (.slice (some ⟨bu, ou, none⟩) us.length cd) (fun W hW => by simp [execOp, GU W hW, Result.andThen, go_sem]) ?_
        go_big_quiet_on
        try simp only [Act.put]
        try simp only [List.setIfInBounds_toArray]
        try simp only [List.set_cons_succ]
        try simp only [List.set_cons_zero]
        go_big_quiet_step ((first | (intro _; rfl) | (intro _; exact ⟨rfl, rfl⟩)))
        go_big_quiet_step ((first | (intro _; rfl) | (intro _; exact ⟨rfl, rfl⟩)))
        go_big_quiet_want
        refine quiet_run (.string su) (fun W hW => by simp [execOp, GX W hW, Result.andThen, go_sem]) ?_
        go_big_quiet_on
        try simp only [Act.put]
        try simp only [List.setIfInBounds_toArray]
        try simp only [List.set_cons_succ]
        try simp only [List.set_cons_zero]
        go_big_quiet_step ((first | (intro _; rfl) | (intro _; exact ⟨rfl, rfl⟩)))
        go_big_quiet_want
        refine quiet_run (.int .i64 (nb : Int)) (fun W hW => by simp [execOp, GN W hW, Result.andThen, go_sem]) ?_
        go_big_quiet_on
        try simp only [Act.put]
        try simp only [List.setIfInBounds_toArray]
        try simp only [List.set_cons_succ]
        try simp only [List.set_cons_zero]
        go_big_quiet_step ((first | (intro _; rfl) | (intro _; exact ⟨rfl, rfl⟩)))
        go_big_quiet_step ((intro hb; refine (CR1.out _).mono ?_; rintro x wc ⟨rfl, hb2⟩; exact ⟨rfl, hb.trans (hb2.mono hb.size)⟩))
        repeat (go_big_quiet_step ((first | (intro _; rfl) | (intro _; exact ⟨rfl, rfl⟩))))
        refine wpQuiet_nil ?_
        intro w4 hb
        have HRw4 := hideIt (HRw3.out.below hb)
        have HBw4 := hideIt (HBw3.out.trans (hb.mono HBw3.out.size))
        clear hb GU GV GN GX GY
        go_wp2_with fail
        have GU := hideIt (fun W (hW : Below w4.heap.size w4 W) => (E0.out W (HBw4.out.trans (hW.mono HBw4.out.size))).2.2.2.1)
        have GV := hideIt (fun W (hW : Below w4.heap.size w4 W) => (E0.out W (HBw4.out.trans (hW.mono HBw4.out.size))).2.2.2.2.1)
        have GN := hideIt (fun W (hW : Below w4.heap.size w4 W) => (E0.out W (HBw4.out.trans (hW.mono HBw4.out.size))).2.2.2.2.2)
        have GX := hideIt (fun W (hW : Below w4.heap.size w4 W) => FU.out W (HBw4.out.trans (hW.mono HBw4.out.size)))
        have GY := hideIt (fun W (hW : Below w4.heap.size w4 W) => FV.out W (HBw4.out.trans (hW.mono HBw4.out.size)))
        refine wp_region_quiet_below (w0 := w4) (B := w4.heap.size) (by kernel_rfl) (by kernel_rfl) (Below.refl _ _) ?_
        try simp only [Act.put]
        try simp only [List.setIfInBounds_toArray]
        try simp only [List.set_cons_succ]
        try simp only [List.set_cons_zero]
        go_big_quiet_step ((first | (intro _; rfl) | (intro _; exact ⟨rfl, rfl⟩)))
        go_big_quiet_want
        refine quiet_run (.slice (some ⟨be, oe, none⟩) vs.length ce) (fun W hW => by simp [execOp, GV W hW, Result.andThen, go_sem]) ?_
        go_big_quiet_on
        try simp only [Act.put]
        try simp only [List.setIfInBounds_toArray]
        try simp only [List.set_cons_succ]
        try simp only [List.set_cons_zero]
        go_big_quiet_step ((first | (intro _; rfl) | (intro _; exact ⟨rfl, rfl⟩)))
        go_big_quiet_step ((first | (intro _; rfl) | (intro _; exact ⟨rfl, rfl⟩)))
        go_big_quiet_want
        refine quiet_run (.string tu) (fun W hW => by simp [execOp, GY W hW, Result.andThen, go_sem]) ?_
        go_big_quiet_on
        try simp only [Act.put]
        try simp only [List.setIfInBounds_toArray]
        try simp only [List.set_cons_succ]
        try simp only [List.set_cons_zero]
        go_big_quiet_step ((first | (intro _; rfl) | (intro _; exact ⟨rfl, rfl⟩)))
        go_big_quiet_want
        refine quiet_run (.int .i64 (nb : Int)) (fun W hW => by simp [execOp, GN W hW, Result.andThen, go_sem]) ?_
        go_big_quiet_on
        try simp only [Act.put]
        try simp only [List.setIfInBounds_toArray]
        try simp only [List.set_cons_succ]
        try simp only [List.set_cons_zero]
        go_big_quiet_step ((first | (intro _; rfl) | (intro _; exact ⟨rfl, rfl⟩)))
        go_big_quiet_step ((intro hb; refine (CR2.out _).mono ?_; rintro x wc ⟨rfl, hb2⟩; exact ⟨rfl, hb.trans (hb2.mono hb.size)⟩))
        repeat (go_big_quiet_step ((first | (intro _; rfl) | (intro _; exact ⟨rfl, rfl⟩))))
        refine wpQuiet_nil ?_
        intro w5 hb
        have HRw5 := hideIt (HRw4.out.below hb)
        have HBw5 := hideIt (HBw4.out.trans (hb.mono HBw4.out.size))
        clear hb GU GV GN GX GY
        go_wp2_with (first
          | (go_at_call 26; refine (CX.out _).mono ?_; rintro e w6 ⟨rfl, hb⟩; have HRw6 := hideIt (HRw5.out.below hb); have HBw6 := hideIt (HBw5.out.trans (hb.mono HBw5.out.size)); clear hb)
          | (go_at_call 24; refine (CS.out _ HBw6.out).mono ?_; rintro e w7 ⟨rfl, hb⟩; have HRw7 := hideIt (HRw6.out.below hb); have HBw7 := hideIt (HBw6.out.trans (hb.mono HBw6.out.size)); clear hb)
          | ((with_reducible refine at_append ?_); refine wpList_append_own_at _ rfl (.tmp 115) (.tmp 117) 30 rfl w1.heap.size 9 i9 (.string ⟨#[]⟩) 1 16 Tryd.underlying30 HI9.out HZ9.out HS9.out HB9i.out rfl (by decide) (vv 1) k _ rfl ((HRw7.out.below (below_new w7 _)).own 1 (by decide)) ⟨w7.heap.size, 0, none⟩ 1 1 [.string sx] rfl rfl (cell_one_new _ _ _) (ones_one rfl) (by unfold maxLen; have := HK.out; omega) (by have := HK.out; omega) (Nat.le_trans HBw7.out.size (below_new w7 _).size) ?_; intro v1 w8 ho hg hn hat; have HRw8 := hideIt ((HRw7.out.below (below_new w7 _)).step 1 (by decide) hg ho hat); have HBw8 := hideIt (below_grown (HBw7.out.trans ((below_new w7 _).mono HBw7.out.size)) ((HRw7.out.below (below_new w7 _)).own 1 (by decide)) (Nat.le_refl _) (Nat.le_trans HBw7.out.size (below_new w7 _).size) hg); clear ho hg hn hat)
          | ((with_reducible refine at_append ?_); refine wpList_append_own_at _ rfl (.tmp 119) (.tmp 121) 30 rfl w1.heap.size 9 i9 (.string ⟨#[]⟩) 1 16 Tryd.underlying30 HI9.out HZ9.out HS9.out HB9i.out rfl (by decide) (vv 2) k _ rfl ((HRw8.out.below (below_new w8 _)).own 2 (by decide)) ⟨w8.heap.size, 0, none⟩ 1 1 [.string ty] rfl rfl (cell_one_new _ _ _) (ones_one rfl) (by unfold maxLen; have := HK.out; omega) (by have := HK.out; omega) (Nat.le_trans HBw8.out.size (below_new w8 _).size) ?_; intro v2 w9 ho hg hn hat; have HRw9 := hideIt ((HRw8.out.below (below_new w8 _)).step 2 (by decide) hg ho hat); have HBw9 := hideIt (below_grown (HBw8.out.trans ((below_new w8 _).mono HBw8.out.size)) ((HRw8.out.below (below_new w8 _)).own 2 (by decide)) (Nat.le_refl _) (Nat.le_trans HBw8.out.size (below_new w8 _).size) hg); clear ho hg hn hat)
          | ((with_reducible refine at_append ?_); refine wpList_append_own_at _ rfl (.tmp 123) (.tmp 125) 30 rfl w1.heap.size 9 i9 (.string ⟨#[]⟩) 1 16 Tryd.underlying30 HI9.out HZ9.out HS9.out HB9i.out rfl (by decide) (vv 3) k _ rfl ((HRw9.out.below (below_new w9 _)).own 3 (by decide)) ⟨w9.heap.size, 0, none⟩ 1 1 [.string sy] rfl rfl (cell_one_new _ _ _) (ones_one rfl) (by unfold maxLen; have := HK.out; omega) (by have := HK.out; omega) (Nat.le_trans HBw9.out.size (below_new w9 _).size) ?_; intro v3 wA ho hg hn hat; have HRwA := hideIt ((HRw9.out.below (below_new w9 _)).step 3 (by decide) hg ho hat); have HBwA := hideIt (below_grown (HBw9.out.trans ((below_new w9 _).mono HBw9.out.size)) ((HRw9.out.below (below_new w9 _)).own 3 (by decide)) (Nat.le_refl _) (Nat.le_trans HBw9.out.size (below_new w9 _).size) hg); clear ho hg hn hat)
          | ((with_reducible refine at_append ?_); refine wpList_append_own_at _ rfl (.tmp 127) (.tmp 129) 30 rfl w1.heap.size 9 i9 (.string ⟨#[]⟩) 1 16 Tryd.underlying30 HI9.out HZ9.out HS9.out HB9i.out rfl (by decide) (vv 4) k _ rfl ((HRwA.out.below (below_new wA _)).own 4 (by decide)) ⟨wA.heap.size, 0, none⟩ 1 1 [.string sz] rfl rfl (cell_one_new _ _ _) (ones_one rfl) (by unfold maxLen; have := HK.out; omega) (by have := HK.out; omega) (Nat.le_trans HBwA.out.size (below_new wA _).size) ?_; intro v4 wB ho hg hn hat; have HRwB := hideIt ((HRwA.out.below (below_new wA _)).step 4 (by decide) hg ho hat); have HBwB := hideIt (below_grown (HBwA.out.trans ((below_new wA _).mono HBwA.out.size)) ((HRwA.out.below (below_new wA _)).own 4 (by decide)) (Nat.le_refl _) (Nat.le_trans HBwA.out.size (below_new wA _).size) hg); clear ho hg hn hat))
        go_roundg (gk - 1)
        case measure => omega
        case rel =>
          refine ⟨k + 1, upd (upd (upd (upd (upd vv 0 v0) 1 v1) 2 v2) 3 v3) 4 v4, by omega, rfl, rfl, rfl, rfl, rfl, by go_num, HRwB.out.same (five rfl rfl rfl rfl rfl) (five ?_ ?_ ?_ ?_ ?_), HBwB.out⟩
          · exact NX0.out.symm
          · exact NX1.out.symm
          · exact NX2.out.symm
          · exact NX3.out.symm
          · exact NX4.out.symm
      · obtain rfl : k = n0 := by omega
        clear hlt
        have hki : ¬ (k : Int) < (k : Int) := by omega
        obtain ⟨A0, g0, q0, _, _⟩ := own_form (HA.out.1.own 0 (by decide))
        obtain ⟨A1, g1, q1, _, _⟩ := own_form (HA.out.1.own 1 (by decide))
        obtain ⟨A2, g2, q2, _, _⟩ := own_form (HA.out.1.own 2 (by decide))
        obtain ⟨A3, g3, q3, _, _⟩ := own_form (HA.out.1.own 3 (by decide))
        obtain ⟨A4, g4, q4, _, _⟩ := own_form (HA.out.1.own 4 (by decide))
        have s0 : Sl wr wr.heap.size A0 1 k (((modQ 16 cs).take k).map iv) := by have h := HA.out.1.own 0 (by decide); rw [q0] at h; exact Sl.of_own h
        have s1 : Sl wr wr.heap.size A1 1 k (((rows us (2 * nb)).take k).map sv) := by have h := HA.out.1.own 1 (by decide); rw [q1] at h; exact Sl.of_own h
        have s2 : Sl wr wr.heap.size A2 1 k (((rows vs (2 * nb)).take k).map sv) := by have h := HA.out.1.own 2 (by decide); rw [q2] at h; exact Sl.of_own h
        have s3 : Sl wr wr.heap.size A3 1 k (((List.zipWith xr (rows us (2 * nb)) (rows vs (2 * nb))).take k).map sv) := by have h := HA.out.1.own 3 (by decide); rw [q3] at h; exact Sl.of_own h
        have s4 : Sl wr wr.heap.size A4 1 k ((((rows us (2 * nb)).map (sc 16 c1)).take k).map sv) := by have h := HA.out.1.own 4 (by decide); rw [q4] at h; exact Sl.of_own h
        rw [List.take_zipWith] at s3
        rw [← List.map_take] at s4
        have hm0 := HM0.out
        have hn8 := HN8.out
        have hnb := HNB.out
        have l0 : ((modQ 16 cs).take k).length = k := by rw [List.length_take]; unfold modQ; rw [List.length_map]; omega
        have l1 : ((rows us (2 * nb)).take k).length = k := by rw [List.length_take]; unfold rows; rw [List.length_map]; omega
        have l2 : ((rows vs (2 * nb)).take k).length = k := by rw [List.length_take]; unfold rows; rw [List.length_map]; omega
        have v0 : ∀ c ∈ (modQ 16 cs).take k, vd ((16 : Nat) : Int) c = true := fun c hc => modQ_ok hm cs c (List.mem_of_mem_take hc)
        have u1 : ∀ u ∈ (rows us (2 * nb)).take k, u.length = 2 * nb := fun u hu => rows_len us _ u (List.mem_of_mem_take hu)
        have u2 : ∀ u ∈ (rows vs (2 * nb)).take k, u.length = 2 * nb := fun u hu => rows_len vs _ u (List.mem_of_mem_take hu)
        generalize (modQ 16 cs).take k = kc at *
        generalize (rows us (2 * nb)).take k = ka at *
        generalize (rows vs (2 * nb)).take k = kb at *
        have hTw := HT.out.keep HA.out.2
        have l3 : (List.zipWith xr ka kb).length = k := by rw [List.length_zipWith]; omega
        have u3 := mem_zipWith_len u1 u2
        have l4 : (ka.map (sc 16 c1)).length = k := by rw [List.length_map, l1]
        have u4 : ∀ u ∈ ka.map (sc 16 c1), u.length = 2 * nb := fun u hu => by
          obtain ⟨x, hx, rfl⟩ := List.mem_map.1 hu
          rw [sc_len hm c1 x (by unfold whl; rw [u1 x hx]; exact HNM.out), u1 x hx]
        have e3 := lin_sum hm HNM.out kc ka kb (by omega) (by omega) (by omega) u1 u2
        have e4 := lin_scale hm HNM.out c1 kc ka (by omega) (by omega) u1
        have lp : (cmbK 16 kc ka ka.length).length = 2 * nb := by
          have hu := ul_same u1 (by omega)
          rw [cmbK_len hm kc ka (fun u h => by rw [hu]; exact u1 u h) (by rw [hu]; exact HNM.out), hu]
        have lq : (cmbK 16 kc kb kb.length).length = 2 * nb := by
          have hu := ul_same u2 (by omega)
          rw [cmbK_len hm kc kb (fun u h => by rw [hu]; exact u2 u h) (by rw [hu]; exact HNM.out), hu]
        have C1 : Hid (∀ W, Below wr.heap.size wr W → Calls Tryd.prog 22 #[.int .i64 16, .slice A0 k g0, .slice A1 k g1] W fun e w' => e = .returned (.tuple #[.string (str (cmbK 16 kc ka ka.length)), .int .i64 0]) ∧ Below wr.heap.size wr w') := hideIt (fun W hW => combineN hTw hW hm HNM.out (by omega) A0 g0 kc A1 g1 ka k (by omega) (by omega) l0 l1 v0 u1 ((s0.below hW).wide hW.size) ((s1.below hW).wide hW.size))
        have C2 : Hid (∀ W, Below wr.heap.size wr W → Calls Tryd.prog 22 #[.int .i64 16, .slice A0 k g0, .slice A2 k g2] W fun e w' => e = .returned (.tuple #[.string (str (cmbK 16 kc kb kb.length)), .int .i64 0]) ∧ Below wr.heap.size wr w') := hideIt (fun W hW => combineN hTw hW hm HNM.out (by omega) A0 g0 kc A2 g2 kb k (by omega) (by omega) l0 l2 v0 u2 ((s0.below hW).wide hW.size) ((s2.below hW).wide hW.size))
        have C3 : Hid (∀ W, Below wr.heap.size wr W → Calls Tryd.prog 22 #[.int .i64 16, .slice A0 k g0, .slice A3 k g3] W fun e w' => e = .returned (.tuple #[.string (str (xr (cmbK 16 kc ka ka.length) (cmbK 16 kc kb kb.length))), .int .i64 0]) ∧ Below wr.heap.size wr w') := hideIt (fun W hW => by
          have h := combineN hTw hW hm HNM.out (by omega) A0 g0 kc A3 g3 (List.zipWith xr ka kb) k (by omega) (by omega) l0 l3 v0 u3 ((s0.below hW).wide hW.size) ((s3.below hW).wide hW.size)
          rw [e3] at h
          exact h)
        have C4 : Hid (∀ W, Below wr.heap.size wr W → Calls Tryd.prog 22 #[.int .i64 16, .slice A0 k g0, .slice A4 k g4] W fun e w' => e = .returned (.tuple #[.string (str (sc 16 c1 (cmbK 16 kc ka ka.length))), .int .i64 0]) ∧ Below wr.heap.size wr w') := hideIt (fun W hW => by
          have h := combineN hTw hW hm HNM.out (by omega) A0 g0 kc A4 g4 (ka.map (sc 16 c1)) k (by omega) (by omega) l0 l4 v0 u4 ((s0.below hW).wide hW.size) ((s4.below hW).wide hW.size)
          rw [e4] at h
          exact h)
        have CX := hideIt (fun W (hW : Below wr.heap.size wr W) => xorN hW (cmbK 16 kc ka ka.length) (cmbK 16 kc kb kb.length) (by rw [lp, lq]) (by rw [lp]; omega))
        have CS : Hid (∀ W, Below wr.heap.size wr W → Calls Tryd.prog 24 #[.int .i64 16, .int .i64 (c1 : Int), .string (str (cmbK 16 kc ka ka.length))] W fun e w' => e = .returned (.tuple #[.string (str (sc 16 c1 (cmbK 16 kc ka ka.length))), .int .i64 0]) ∧ Below wr.heap.size wr w') := hideIt (fun W hW => scaleN hTw hW hm HC1.out (cmbK 16 kc ka ka.length) (by rw [lp]; exact HNM.out) (by rw [lp]; omega))
        generalize str (sc 16 c1 (cmbK 16 kc ka ka.length)) = st at *
        generalize str (xr (cmbK 16 kc ka ka.length) (cmbK 16 kc kb kb.length)) = sr at *
        generalize str (cmbK 16 kc ka ka.length) = sp at *
        generalize str (cmbK 16 kc kb kb.length) = sq at *
        have hq1 : binOp .eql 9 (.string sr) (.string sr) = pure (.bool true) := by rw [binOp_string_eql]; simp
        have hq2 : binOp .eql 9 (.string st) (.string st) = pure (.bool true) := by rw [binOp_string_eql]; simp
        have HBX := hideIt (Below.refl wr.heap.size wr)
        rw [q0, q1, q2, q3, q4]
        clear s0 s1 s2 s3 s4 l0 l1 l2 l3 l4 v0 u1 u2 u3 u4 e3 e4 lp lq hTw hm0 hn8 hnb q0 q1 q2 q3 q4
        go_wp2_with (first
          | (go_at_call 22; refine (C1.out _ HBX.out).mono ?_; rintro e w' ⟨rfl, hb⟩; clear HBX C1; have HBX := hideIt hb; clear hb)
          | (go_at_call 22; refine (C2.out _ HBX.out).mono ?_; rintro e w' ⟨rfl, hb⟩; clear HBX C2; have HBX := hideIt hb; clear hb)
          | (go_at_call 22; refine (C3.out _ HBX.out).mono ?_; rintro e w' ⟨rfl, hb⟩; clear HBX C3; have HBX := hideIt hb; clear hb)
          | (go_at_call 22; refine (C4.out _ HBX.out).mono ?_; rintro e w' ⟨rfl, hb⟩; clear HBX C4; have HBX := hideIt hb; clear hb)
          | (go_at_call 26; refine (CX.out _ HBX.out).mono ?_; rintro e w' ⟨rfl, hb⟩; clear HBX CX; have HBX := hideIt hb; clear hb)
          | (go_at_call 24; refine (CS.out _ HBX.out).mono ?_; rintro e w' ⟨rfl, hb⟩; clear HBX CS; have HBX := hideIt hb; clear hb))
        go_ret
        exact ⟨rfl, HB01.out.trans ((HA.out.2.trans (HBX.out.mono HA.out.2.size)).mono HB01.out.size)⟩

end Go.Proofs.YtihepogccgcfkaaDoor.fieldCombineIsLinear
