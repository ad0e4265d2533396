/-
  The walk of the law: For every unit of at most 60 bytes, the iterator yields exactly the twins of all numbers from 0 on, in order, every time it is ranged over, also after a range that was left early.
-/
import Derived.Test.YtbejmcndflmgaaaDoorYld
import Derived.Test.YtbejmcndflmgaaaDoorBQ
namespace Go.Proofs.YtbejmcndflmgaaaDoor.printYields
open Go.RowKit
set_option linter.unusedVariables false
attribute [local go_sem] eqGuard_wv binOp_add_wv binOp_and_wv binOp_or_wv binOp_xor_wv binOp_shr_wv binOp_shl_wv unary_xor_wv run_convert_wv run_store_wv run_storeCells_wv run_convert_bw

attribute [local go_sem] Oper.semAt_some
open Go.Shelf

set_option maxHeartbeats 1000000 in
set_option maxRecDepth 100000 in
theorem walk (l0 : List UInt8) (a1 : Int) (w : World) (s0 : l0.length ≤ 140737488351232) (w1 : -9223372036854775808 ≤ a1 ∧ a1 ≤ 9223372036854775807) (T1 : Tabs w) :
    Calls Tryd.prog 7 #[.string (str l0), .int .i64 a1] w fun e w' => e = .returned (.bool true) ∧ Below w.heap.size w w' := by
  have HT := hideIt T1
  have HS0 := hideIt (fun W hW => sanity_any W (T1.keep hW))
  have HLN := hideIt (str_size l0)
  have W1 := hideIt w1
  obtain ⟨s, hs⟩ : ∃ s, s = str l0 := ⟨_, rfl⟩
  rw [← hs] at HLN ⊢
  have HSS := hideIt hs
  clear T1 w1 hs
  obtain ⟨W0, hW0⟩ : ∃ W0, W0 = ((w.alloc (.cells #[.string s] 9)).alloc (.cells #[.int .i64 a1] 3)).alloc (.cells #[.bool false] 4) := ⟨_, rfl⟩
  have hz0 : W0.heap.size = w.heap.size + 3 := by rw [hW0]; simp
  have hb0 : Below w.heap.size w W0 := by rw [hW0]; exact (((Below.refl _ w).alloc (Nat.le_refl _) _).alloc (by simp) _).alloc (by simp; omega) _
  have hc := cell_two w 9 3 (.string s) (.int .i64 a1)
  have hc2 := cell_one ((w.alloc (.cells #[.string s] 9)).alloc (.cells #[.int .i64 a1] 3)) 4 (.bool false)
  have hf2 := free_one ((w.alloc (.cells #[.string s] 9)).alloc (.cells #[.int .i64 a1] 3)) 4 (.bool false)
  have hf1 := free_one (w.alloc (.cells #[.string s] 9)) 3 (.int .i64 a1)
  rw [World.size_alloc] at hf1
  rw [World.size_alloc, World.size_alloc, ← hW0] at hc2 hf2
  have hk := (Below.refl _ ((w.alloc (.cells #[.string s] 9)).alloc (.cells #[.int .i64 a1] 3))).alloc (Nat.le_refl _) (.cells #[.bool false] 4)
  rw [← hW0, World.size_alloc, World.size_alloc] at hk
  have CU := hideIt ((hk.cell (p := ⟨w.heap.size, 0, none⟩) (by show w.heap.size < _; omega)).trans hc.1)
  have CE := hideIt ((hk.cell (p := ⟨w.heap.size + 1, 0, none⟩) (by show w.heap.size + 1 < _; omega)).trans hc.2)
  have FE := hideIt ((hk.frozen (p := ⟨w.heap.size + 1, 0, none⟩) (by show w.heap.size + 1 < _; omega)).trans hf1)
  have CR := hideIt hc2
  have FR := hideIt hf2
  have HZ0 := hideIt hz0
  have HB0 := hideIt hb0
  clear hc hc2 hf2 hf1 hk hz0 hb0
  refine callsIn_wide.1 (callsIn_of_wp_marks (n := 0) Tryd.func7 rfl trivial ((wpIn_wide (n := 0)).2 ?_))
  simp only [Tryd.ntmps7, List.size_toArray, List.length_cons, List.length_nil, Nat.reduceAdd, Nat.reduceSub, Array.replicate_succ, Array.replicate_zero, List.push_toArray, List.append_toArray, List.nil_append, List.cons_append]
  have HW0 := hideIt hW0
  clear hW0
  obtain ⟨c0, hc0⟩ : ∃ c0, c0 = w.heap.size := ⟨_, rfl⟩
  obtain ⟨c1, hc1⟩ : ∃ c1, c1 = c0 + 1 := ⟨_, rfl⟩
  obtain ⟨c2, hc2⟩ : ∃ c2, c2 = c1 + 1 := ⟨_, rfl⟩
  rw [← hc0] at CU CE FE CR FR
  rw [← hc1] at CE FE CR FR
  rw [← hc2] at CR FR
  have HC := hideIt (show c0 = w.heap.size ∧ c1 = c0 + 1 ∧ c2 = c1 + 1 ∧ W0.heap.size = c2 + 1 by have := HZ0.out; omega)
  have R0 := hideIt hc0
  have R1 := hideIt hc1
  have R2 := hideIt hc2
  clear hc0 hc1 hc2 HZ0
  by_cases h60 : (60 : Int) < (s.size : Int)
  · go_wp2_with fail
    rw [← HW0.out, ← R0.out, ← R1.out, ← R2.out]
    clear HW0 R0 R1 R2
    refine (HS0.out _ HB0.out).mono ?_
    rintro e w5 ⟨rfl, hb5⟩
    have hcc := HC.out
    have hc5 := (hb5.cell (p := ⟨c2, 0, none⟩) (by show c2 < _; omega)).trans CR.out
    have hf5 := (hb5.frozen (p := ⟨c2, 0, none⟩) (by show c2 < _; omega)).trans FR.out
    have HB5 := hideIt (HB0.out.trans (hb5.mono HB0.out.size))
    clear hb5 hcc
    go_wp2_with fail
    exact ⟨_, results_cell_bool rfl _ _ c2 rfl true (World.cell?_setCell_same' _ _ _ (by rw [hc5]; rfl)), rfl, HB5.out.setCell (p := ⟨c2, 0, none⟩) (by have := HC.out; show w.heap.size ≤ c2; omega) _⟩
  · have h60b : l0.length ≤ 60 := by have := HLN.out; omega
    have H60 := hideIt h60b
    clear h60b
    go_wp2_with fail
    rw [← HW0.out, ← R0.out, ← R1.out, ← R2.out]
    clear HW0 R0 R1 R2
    have htw := twins_any s W0
    obtain ⟨B, hB⟩ : ∃ B, B = W0.heap.size := ⟨_, rfl⟩
    rw [← hB] at htw
    have HBB := hideIt hB
    refine htw.mono ?_
    rintro e w4 ⟨rfl, hw4⟩
    have hct := cell_two W0 9 34 (.string s) (.func (.func 22) #[] #[.pointer (some ⟨B, 0, none⟩)])
    have hz4 : w4.heap.size = B + 2 := by rw [hw4, hB]; simp
    have hb4 : Below B W0 w4 := by rw [hw4, hB]; exact ((Below.refl _ W0).alloc (Nat.le_refl _) _).alloc (by simp) _
    rw [← hB, ← hw4] at hct
    rw [HSS.out] at hct
    have hcc := HC.out
    have B4 := hideIt (HB0.out.trans (hb4.mono (by omega)))
    have HIT := hideIt (law_iter l0 B w4 (HT.out.keep B4.out) (by omega) hct.1 hct.2)
    have CU4 := hideIt ((hb4.cell (p := ⟨c0, 0, none⟩) (by show c0 < _; omega)).trans CU.out)
    have CE4 := hideIt ((hb4.cell (p := ⟨c1, 0, none⟩) (by show c1 < _; omega)).trans CE.out)
    have FE4 := hideIt ((hb4.frozen (p := ⟨c1, 0, none⟩) (by show c1 < _; omega)).trans FE.out)
    have CR4 := hideIt ((hb4.cell (p := ⟨c2, 0, none⟩) (by show c2 < _; omega)).trans CR.out)
    have FR4 := hideIt ((hb4.frozen (p := ⟨c2, 0, none⟩) (by show c2 < _; omega)).trans FR.out)
    have HC4 := hideIt (show c0 = w.heap.size ∧ c1 = c0 + 1 ∧ c2 = c1 + 1 ∧ B = c2 + 1 ∧ w4.heap.size = B + 2 by omega)
    have hx0 := HT.out.hi
    have hx1 := HT.out.lo
    have q1 : ∀ k, capL B k → k < w4.heap.size := fun k hk => by rcases hk with rfl | rfl | rfl | rfl <;> omega
    have Q2 := hideIt (show ∀ k, k = c1 → k < w4.heap.size ∧ ¬ capL B k from fun k hk => by
      subst hk
      exact ⟨by omega, fun hh => by rcases hh with hh | hh | hh | hh <;> omega⟩)
    have Q1 := hideIt q1
    have Q3 := hideIt (show Low w4.heap.size (fun (_ : List (List UInt8)) V => (∃ n, V.cell? ⟨c1, 0, none⟩ = some (.int .i64 n)) ∧ V.frozen? ⟨c1, 0, none⟩ = false) from fun _ A V h hb => by
      obtain ⟨⟨n, hn⟩, hf⟩ := h
      exact ⟨⟨n, (hb.cell (p := ⟨c1, 0, none⟩) (by show c1 < _; omega)).trans hn⟩, (hb.frozen (p := ⟨c1, 0, none⟩) (by show c1 < _; omega)).trans hf⟩)
    clear htw hB hct hz4 hb4 hw4 hcc hx0 hx1 q1 CU CE FE CR FR HB0 HC HBB
    go_wp2_with fail
    refine range_break 0 (fun a w h => by simpa [Exit.inBlock] using h) (gf := 18) (lb := #[.pointer (some ⟨B + 1, 0, none⟩)]) rfl (enters_of Tryd.func18 (by kernel_rfl) rfl) HIT.out (fun k hk => ⟨Q1.out k hk, rfl⟩) (fun _ => rfl) (fun k => k = c1) Q2.out
      (fun _ V => (∃ n, V.cell? ⟨c1, 0, none⟩ = some (.int .i64 n)) ∧ V.frozen? ⟨c1, 0, none⟩ = false) Q3.out ⟨⟨_, CE4.out⟩, FE4.out⟩ ?a1 ?assign ?body ?rest
    case assign =>
      intro l' x V K hK
      have HK2 := hideIt hK
      clear hK
      gi_wp2
      exact HK2.out
    case body =>
      rintro l' pre x V hpre hKV ⟨⟨n, hn⟩, hf⟩
      have hsub : binOp .sub 3 (.int .i64 n) (.int .i64 1) = pure (.int .i64 (IntKind.i64.wrap (n - 1))) := by rw [binOp_sub]; rfl
      generalize IntKind.i64.wrap (n - 1) = n2 at *
      have HKS := hideIt (fun u => (Keeps.refl (fun k => k = c1) V).setCell (p := ⟨c1, 0, none⟩) rfl u)
      have HCS := hideIt (fun u => World.cell?_setCell_same' V ⟨c1, 0, none⟩ u (by rw [hn]; rfl))
      have HFS := hideIt (show ∀ u, (V.setCell ⟨c1, 0, none⟩ u).frozen? ⟨c1, 0, none⟩ = false from fun u => by rw [World.frozen?_setCell]; exact hf)
      clear hpre hKV
      by_cases h2 : n2 < 0
      · gi_wp2_with fail
        exact ⟨HKS.out _, rfl, ⟨_, HCS.out _⟩, HFS.out _⟩
      · gi_wp2_with fail
        exact ⟨HKS.out _, ⟨_, HCS.out _⟩, HFS.out _⟩
    case rest =>
      rintro D1 _ V hD hKV _ hDf
      have hcc := HC4.out
      have hD1 := (Array.getElem?_eq_some_iff.1 hDf).1
      have hsv := hKV.size
      have hcn := cell_one V 3 (.int .i64 0)
      have hfn := free_one V 3 (.int .i64 0)
      have hbn := below_new V (.cells #[.int .i64 0] 3)
      have hsn := World.size_alloc V (.cells #[.int .i64 0] 3)
      have CUV := hideIt (((hbn.cell (p := ⟨c0, 0, none⟩) (by show c0 < _; omega)).trans (hKV.cell (p := ⟨c0, 0, none⟩) (by show c0 < _; omega) (by show ¬ c0 = c1; omega))).trans CU4.out)
      have CRV := hideIt (((hbn.cell (p := ⟨c2, 0, none⟩) (by show c2 < _; omega)).trans (hKV.cell (p := ⟨c2, 0, none⟩) (by show c2 < _; omega) (by show ¬ c2 = c1; omega))).trans CR4.out)
      have FRV := hideIt (((hbn.frozen (p := ⟨c2, 0, none⟩) (by show c2 < _; omega)).trans (hKV.frozen (p := ⟨c2, 0, none⟩) (by show c2 < _; omega) (by show ¬ c2 = c1; omega))).trans FR4.out)
      have DV := hideIt ((hbn.block D1 hD1).trans hDf)
      have BV := hideIt ((B4.out.trans (hKV.below (B := w.heap.size) (by omega) (fun k hk hh => by omega))).trans (hbn.mono (by omega)))
      have q1 : ∀ k, capL B k → k < w4.heap.size ∧ (V.alloc (.cells #[.int .i64 0] 3)).heap[k]? = w4.heap[k]? := fun k hk => by
        have h1 := Q1.out k hk
        exact ⟨h1, (hbn.block k (by omega)).trans (hKV.block k h1 (fun hh => (Q2.out k hh).2 hk))⟩
      have q2 : ∀ k, k = V.heap.size → k < (V.alloc (.cells #[.int .i64 0] 3)).heap.size ∧ ¬ capL B k := fun k hk => by
        subst hk
        exact ⟨by omega, fun hh => by have := Q1.out _ hh; omega⟩
      have q3 : Low (V.alloc (.cells #[.int .i64 0] 3)).heap.size (fun (pre : List (List UInt8)) X => X.cell? ⟨V.heap.size, 0, none⟩ = some (.int .i64 (pre.length : Int)) ∧ X.frozen? ⟨V.heap.size, 0, none⟩ = false) := fun _ A X h hb =>
        ⟨(hb.cell (p := ⟨V.heap.size, 0, none⟩) (by show V.heap.size < _; omega)).trans h.1, (hb.frozen (p := ⟨V.heap.size, 0, none⟩) (by show V.heap.size < _; omega)).trans h.2⟩
      obtain ⟨kb, hkb⟩ : ∃ kb, kb = V.heap.size := ⟨_, rfl⟩
      have HKB := hideIt hkb
      rw [← hkb] at hcn hfn q2 q3 hsn
      have P1 := hideIt q1
      have P2 := hideIt q2
      have P3 := hideIt q3
      have CN := hideIt hcn
      have FN := hideIt hfn
      have HC5 := hideIt (show c0 = w.heap.size ∧ c1 = c0 + 1 ∧ c2 = c1 + 1 ∧ c2 < D1 ∧ D1 < kb by omega)
      clear hcc hD1 hsv hcn hfn hbn q1 q2 q3 hkb hD hKV hDf Q1 Q2 Q3 CU4 CE4 FE4 CR4 FR4 HC4 B4
      go_wp2_with fail
      rw [← HKB.out]
      obtain ⟨W5, hW5⟩ : ∃ W5, W5 = V.alloc (.cells #[.int .i64 0] 3) := ⟨_, rfl⟩
      rw [← hW5] at hsn CUV CRV FRV DV BV P1 P2 P3 CN FN ⊢
      have HS5 := hideIt hsn
      clear hW5 hsn HKB
      refine range_any (gf := 18) (lb := #[.pointer (some ⟨B + 1, 0, none⟩)]) rfl (enters_of Tryd.func18 (by kernel_rfl) rfl) HIT.out P1.out (fun _ => rfl) (fun k => k = kb) P2.out
        (fun pre X => X.cell? ⟨kb, 0, none⟩ = some (.int .i64 (pre.length : Int)) ∧ X.frozen? ⟨kb, 0, none⟩ = false) (fun _ _ _ => False) P3.out (fun _ _ _ _ h _ => h) ⟨CN.out, FN.out⟩ ?a2 ?assign2 ?body2 ?done2 ?stop2
      case assign2 =>
        intro l' x X K hK
        have HK2 := hideIt hK
        clear hK
        gi_wp2
        exact HK2.out
      case body2 =>
        rintro l' pre x X hpre hKX ⟨hn, hf⟩
        obtain ⟨hx, hlt⟩ := twinsL_next l0 pre x hpre
        obtain ⟨sk, ek, _, _⟩ := tw_ok (l := l0) (k := (pre.length : Int)) ⟨by omega, hlt⟩
        have h16 := spc_le l0.length
        have hcc := HC5.out
        have hs5 := HS5.out
        have hcu := (hKX.cell (p := ⟨c0, 0, none⟩) (by show c0 < _; omega) (by show ¬ c0 = kb; omega)).trans CUV.out
        have HTW := hideIt (rtw_any l0 (pre.length : Int) X)
        rw [sk, ek, ← HSS.out, show ((pre.length : Int)).toNat = pre.length by omega, ← hx] at HTW
        have hinc := inc_c 3 pre.length (by omega)
        have HPL := hideIt (show (pre ++ [x]).length = pre.length + 1 by simp)
        have hkx : kb < X.heap.size := by have := hKX.size; omega
        have HKX2 := hideIt (fun (Y : World) (hY : Below X.heap.size X Y) u => (Keeps.of_below (T := fun k => k = kb) hY).setCell (p := ⟨kb, 0, none⟩) rfl u)
        have HN2 := hideIt (fun (Y : World) (hY : Below X.heap.size X Y) => (hY.cell (p := ⟨kb, 0, none⟩) hkx).trans hn)
        have HF2 := hideIt (fun (Y : World) (hY : Below X.heap.size X Y) => (hY.frozen (p := ⟨kb, 0, none⟩) hkx).trans hf)
        have HNE := hideIt (str_neqF 9 x)
        clear hx hlt sk ek h16 hpre hcc hs5 hkx hf hKX
        generalize str x = t at *
        gi_wp2_with fail
        refine ⟨trivial, rfl, ?_⟩
        refine (CallsIn.inRound l' (callsIn_wide.2 HTW.out)).mono ?_
        rintro e Y ⟨rfl, hbY⟩
        have hn2 := HN2.out Y hbY
        have hf2 := HF2.out Y hbY
        have HKS := hideIt (HKX2.out Y hbY)
        have hne := HNE.out
        have HCS := hideIt (fun u => World.cell?_setCell_same' Y ⟨kb, 0, none⟩ u (by rw [hn2]; rfl))
        have HFS := hideIt (show ∀ u, (Y.setCell ⟨kb, 0, none⟩ u).frozen? ⟨kb, 0, none⟩ = false from fun u => by rw [World.frozen?_setCell]; exact hf2)
        clear hbY HN2 HF2 HKX2 HNE HTW hn
        gi_wp2_with fail
        exact ⟨HKS.out _, by rw [HPL.out]; exact HCS.out _, HFS.out _⟩
      case done2 =>
        rintro D2 X hD hKX ⟨hn, hf⟩ hDf
        have hcc := HC5.out
        have hs5 := HS5.out
        have hsx := hKX.size
        have hD2 := (Array.getElem?_eq_some_iff.1 hDf).1
        have hcu := (hKX.cell (p := ⟨c0, 0, none⟩) (by show c0 < _; omega) (by show ¬ c0 = kb; omega)).trans CUV.out
        have hcr := (hKX.cell (p := ⟨c2, 0, none⟩) (by show c2 < _; omega) (by show ¬ c2 = kb; omega)).trans CRV.out
        have hfr := (hKX.frozen (p := ⟨c2, 0, none⟩) (by show c2 < _; omega) (by show ¬ c2 = kb; omega)).trans FRV.out
        have hd1 := (hKX.block D1 (by omega) (by show ¬ D1 = kb; omega)).trans DV.out
        have hbx := BV.out.trans (hKX.below (B := w.heap.size) BV.out.size (fun k hk hh => by omega))
        have hzn : ((twinsL l0).length : Int) = spc l0.length := by rw [twinsL_len]; have := spc_nonneg l0.length; omega
        rw [hzn] at hn
        have HSP := hideIt (fun W => rspace_any (l0.length : Int) W)
        have heq := int_eqlT 3 (spc l0.length)
        have CN2 := hideIt (fun W (hW : Below X.heap.size X W) => (hW.cell (p := ⟨kb, 0, none⟩) (by show kb < _; omega)).trans hn)
        have CU2 := hideIt (fun W (hW : Below X.heap.size X W) => (hW.cell (p := ⟨c0, 0, none⟩) (by show c0 < _; omega)).trans hcu)
        have CR2 := hideIt (fun W (hW : Below X.heap.size X W) => (hW.cell (p := ⟨c2, 0, none⟩) (by show c2 < _; omega)).trans hcr)
        have FR2 := hideIt (fun W (hW : Below X.heap.size X W) => (hW.frozen (p := ⟨c2, 0, none⟩) (by show c2 < _; omega)).trans hfr)
        have DD1 := hideIt (fun W (hW : Below X.heap.size X W) => (hW.block D1 (by omega)).trans hd1)
        have DD2 := hideIt (fun W (hW : Below X.heap.size X W) => (hW.block D2 hD2).trans hDf)
        have CS := hideIt (fun W (hW : Below X.heap.size X W) => HS0.out W (hbx.trans (hW.mono hbx.size)))
        have BX := hideIt hbx
        have HC6 := hideIt (show w.heap.size < c2 ∧ c2 < D1 ∧ D1 < D2 by omega)
        clear hcc hs5 hsx hD2 hcu hcr hfr hd1 hbx hzn hn hf hDf hKX hD CUV CRV FRV DV BV P1 P2 P3 CN FN HC5 HS5 HIT HS0
        generalize spc (l0.length : Int) = z at *
        go_wp2_with fail
        refine calm_tail (C := fun W => Below X.heap.size X W) 8 (by kernel_rfl) (by kernel_rfl) (Below.refl _ _).drew ?_
        simp only [List.take_succ_cons, List.take_zero, List.drop_succ_cons, List.drop_zero]
        go_big_quiet_step ((intro hb; refine (CS.out _ hb).mono ?_; rintro x wc ⟨rfl, hb2⟩; exact ⟨rfl, hb.trans (hb2.mono hb.size)⟩))
        go_big_quiet_step (fail)
        go_big_quiet_want
        refine quiet_run (.int .i64 z) (fun W hW => by have := CN2.out W hW; simp [execOp, this, go_sem]) ?_
        go_big_quiet_on
        try simp only [Act.put]
        try simp only [List.setIfInBounds_toArray]
        try simp only [List.set_cons_succ]
        try simp only [List.set_cons_zero]
        go_big_quiet_want
        refine quiet_run (.string s) (fun W hW => by have := CU2.out W hW; simp [execOp, this, go_sem]) ?_
        go_big_quiet_on
        try simp only [Act.put]
        try simp only [List.setIfInBounds_toArray]
        try simp only [List.set_cons_succ]
        try simp only [List.set_cons_zero]
        go_big_quiet_step ((first | (intro _; rfl) | (intro _; exact ⟨rfl, rfl⟩)))
        go_big_quiet_step ((intro hb; rw [HLN.out]; refine (HSP.out _).mono ?_; rintro x wc ⟨rfl, rfl⟩; exact ⟨rfl, hb⟩))
        repeat (go_big_quiet_step ((first | (intro _; rfl) | (intro _; exact ⟨rfl, rfl⟩))))
        refine wpQuiet_nil ?_
        intro wc hwc
        have hcr := CR2.out wc hwc
        have hfr := FR2.out wc hwc
        have HD1 := hideIt (DD1.out wc hwc)
        have HD2 := hideIt (DD2.out wc hwc)
        have HBC := hideIt (BX.out.trans (hwc.mono BX.out.size))
        have HCS := hideIt (fun u => World.cell?_setCell_same' wc ⟨c2, 0, none⟩ u (by rw [hcr]; rfl))
        clear hwc
        go_wp2_with fail
        have h1 := HC6.out
        refine ⟨by simp, .inl ⟨_, _, rfl, run_takeDeferred ((Below.heap_setCell _ _ _ _ (by show D2 ≠ c2; omega)).trans HD2.out), ?_⟩⟩
        refine ⟨by simp, .inl ⟨_, _, rfl, run_takeDeferred (((below_putObj _ (Nat.le_refl D2) _).block D1 (by omega)).trans ((Below.heap_setCell _ _ _ _ (by show D1 ≠ c2; omega)).trans HD1.out)), ?_⟩⟩
        refine ⟨_, results_cell_bool rfl _ _ c2 rfl true ?_, rfl, ((HBC.out.setCell (p := ⟨c2, 0, none⟩) (by show w.heap.size ≤ c2; omega) _).trans (below_putObj _ (by omega) _)).trans (below_putObj _ (by omega) _)⟩
        rw [(below_putObj (B := D1) _ (Nat.le_refl _) _).cell (p := ⟨c2, 0, none⟩) (by show c2 < D1; omega), (below_putObj (B := D2) _ (Nat.le_refl _) _).cell (p := ⟨c2, 0, none⟩) (by show c2 < D2; omega)]
        exact HCS.out _
      case stop2 =>
        rintro D c pre V _ _ _ h _
        exact h.elim

end Go.Proofs.YtbejmcndflmgaaaDoor.printYields
