/-
  The program's Apply, walked where the units that the plan reads are of moderate length.
-/
import Derived.Test.YtklngodlijiccaaDoorRepL
namespace Go.Proofs.YtklngodlijiccaaDoor
open Go.RowKit
set_option linter.unusedVariables false
set_option linter.unusedSimpArgs false
set_option maxHeartbeats 4000000 in
set_option maxRecDepth 100000 in
theorem apply_part (x : Cd) (A : Option Addr) (c : Nat) (w : World) (hT : Tabs w) (hx : CIn w x A) (pu : Int) (ts : List (Int × Int)) (hts : ts.length ≤ 1000) (B : Option Addr) (cb : Nat) (hB : Sl w w.heap.size B 2 ts.length (zcs ts)) (us : List (List UInt8)) (hul : us.length ≤ 1000) (hbig : ∀ t ∈ ts, (us.getD t.1.toNat []).length ≤ 100000) (D : Option Addr) (cd : Nat) (hD : Sl w w.heap.size D 1 us.length (us.map sv)) :
    Calls Tryd.prog 23 #[x.v A c, .agg #[.int .i64 pu, .slice B ts.length cb], .slice D us.length cd] w fun e w' => e = .returned (.tuple #[.string (str (aplR x pu ts us).1), .int .i64 (aplR x pu ts us).2]) ∧ Below w.heap.size w w' := by
  obtain ⟨W1, hW1⟩ : ∃ W, W = w.alloc (.cells (x.cs A c).toArray 24) := ⟨_, rfl⟩
  obtain ⟨W, hW⟩ : ∃ W, W = W1.alloc (.cells #[.int .i64 pu, .slice B ts.length cb] 30) := ⟨_, rfl⟩
  have hb1 : Below w.heap.size w W1 := by rw [hW1]; exact below_new w _
  have hb2 : Below W1.heap.size W1 W := by rw [hW]; exact below_new W1 _
  have hbw := hb1.trans (hb2.mono hb1.size)
  have hs1 : W1.heap.size = w.heap.size + 1 := by rw [hW1]; simp
  have HB := hideIt hbw
  have HBC := hideIt (show BC W w.heap.size x A c by
    have : BC W1 w.heap.size x A c := by rw [hW1]; exact BC.new c hx
    exact this.keep hb2)
  have HPL := hideIt (show Blk W (w.heap.size + 1) 30 [.int .i64 pu, .slice B ts.length cb] by
    rw [← hs1, hW]; exact Blk.new W1 30 [.int .i64 pu, .slice B ts.length cb])
  have HSB := hideIt ((hB.below hbw).wide hbw.size)
  have HSD := hideIt ((hD.below hbw).wide hbw.size)
  have HT := hideIt (hT.keep hbw)
  have HPU := hideIt (perStr_any x A c W HT.out HBC.out.cin us.length D cd)
  have HIX := hideIt (fun u W2 => index_any (us.length : Int) u W2)
  have HWE1 := hideIt hW1
  have HWE := hideIt hW
  have HBG := hideIt hbig
  have hnot := not_b
  have HR := hideIt (aplR_is x pu ts us)
  clear hb1 hb2 hbw hs1 hx hB hD hW hW1 hbig hT
  obtain ⟨R, hR⟩ : ∃ R, R = aplR x pu ts us := ⟨_, rfl⟩
  rw [← hR] at HR ⊢
  clear hR
  cases hok : okN x us.length with
  | false =>
    have HE := hideIt (HR.out.trans (if_neg fun h => by rw [hok] at h; cases h.1))
    rw [hok] at HPU
    clear hok HR
    rw [HE.out]
    go_enter Tryd.func23, Tryd.ntmps23
    go_wp2_with (first
      | ((with_reducible refine at_load ?_); refine wpList_ldC (by kernel_rfl) (.tmp 3) rfl (p := w.heap.size) (c := c) rfl (by rw [← HWE1.out, ← HWE.out]; exact HBC.out.box) ?_)
      | (go_at_call 49; rw [← HWE1.out, ← HWE.out]; refine HPU.out.mono ?_; rintro e w1 ⟨rfl, hb1⟩; have HB1 := hideIt hb1; clear hb1 HPU))
    go_ret2
    exact ⟨rfl, HB.out.trans (HB1.out.mono HB.out.size)⟩
  | true =>
    rw [hok] at HPU
    by_cases hidx : 0 ≤ pu ∧ pu < (us.length : Int)
    · have HR2 := hideIt (HR.out.trans (if_pos ⟨hok, hidx⟩))
      have HI1 := hideIt (fun W2 => show Calls Tryd.prog 32 #[.int .i64 (us.length : Int), .int .i64 pu] W2 (fun e w' => e = .returned (.bool true) ∧ W2 = w') by
        have := HIX.out pu W2
        rwa [decide_eq_true hidx] at this)
      clear hok HR hidx
      go_enter Tryd.func23, Tryd.ntmps23
      go_wp2_with (first
        | ((with_reducible refine at_load ?_); refine wpList_ldC (by kernel_rfl) (.tmp 3) rfl (p := w.heap.size) (c := c) rfl (by rw [← HWE1.out, ← HWE.out]; exact HBC.out.box) ?_)
        | (go_at_call 49; rw [← HWE1.out, ← HWE.out]; refine HPU.out.mono ?_; rintro e w1 ⟨rfl, hb1⟩; have HB1 := hideIt hb1; have p0 := (HPL.out.kept hb1 HPL.out.lt).cell 0; have p1 := (HPL.out.kept hb1 HPL.out.lt).cell 1; clear hb1 HPU)
        | (go_at_call 32; refine (HI1.out _).mono ?_; rintro e w2 ⟨rfl, rfl⟩; clear HI1))
      clear p0 p1
      go_loopg [8, 9, 27] ts.length (fun gk s8 s9 s27 wr => ∃ k : Nat, k + gk = ts.length ∧ s27 = .int .i64 (k : Int) ∧ Aside (Below W.heap.size W wr) ∧ Aside (wr.ownsRow W.heap.size 3 1 s8 k ((cfz (ts.take k)).map iv)) ∧ Aside (wr.ownsRow W.heap.size 9 1 s9 k ((smz (ts.take k) us).map sv)) ∧ Aside ((ts.take k).all (inZ us.length) = true))
      case atStart => exact ⟨0, by omega, rfl, HB1.out, World.ownsRow_nil _ _ _ _, World.ownsRow_nil _ _ _ _, by simp [Aside]⟩
      case round =>
        obtain ⟨k, hk, rfl, HLW, HO7, HO8, HIZ⟩ := hrel
        obtain ⟨w5, rfl⟩ : ∃ x, x = wr := ⟨wr, rfl⟩
        obtain ⟨A7, c7, e7, _, _⟩ := own_form HO7.out
        obtain ⟨A8, c8, e8, _, _⟩ := own_form HO8.out
        subst e7 e8
        by_cases hlt : k < ts.length
        · obtain ⟨b, o, hBe, hb, hrg⟩ := (HSB.out.below HLW.out).zr hlt
          have hinc := inc_c 3 k (by omega)
          have hki : (k : Int) < (ts.length : Int) := by omega
          have HTK := hideIt (take_snoc ts k hlt)
          have HAT := hideIt (fun h => all_at (p := inZ us.length) hlt h)
          have HRG := hideIt hrg
          subst hBe
          generalize ts[k] = t at *
          clear hb hrg
          obtain ⟨tu, tc0⟩ := t
          by_cases hin : 0 ≤ tu ∧ tu < (us.length : Int)
          · obtain ⟨tn, rfl⟩ : ∃ n : Nat, tu = (n : Int) := ⟨tu.toNat, by omega⟩
            have htn : tn < us.length := by omega
            have HI2 := hideIt (fun W2 => show Calls Tryd.prog 32 #[.int .i64 (us.length : Int), .int .i64 (tn : Int)] W2 (fun e w' => e = .returned (.bool true) ∧ W2 = w') by
              have := HIX.out (tn : Int) W2
              rwa [decide_eq_true hin] at this)
            obtain ⟨b2, o2, hDe, hb2, hcs⟩ := (HSD.out.below HLW.out).strs (by omega)
            have hcs1 := hcs tn htn
            have htl : (tn : Int) < (us.length : Int) := by omega
            have HN1 := hideIt (show cfz (ts.take (k + 1)) = cfz (ts.take k) ++ [tc0] by rw [HTK.out]; simp [cfz])
            have HN2 := hideIt (show smz (ts.take (k + 1)) us = smz (ts.take k) us ++ [us[tn]] by
              rw [HTK.out]
              have : us.getD tn [] = us[tn] := by simp [List.getD_eq_getElem?_getD, htn]
              simp only [smz, List.map_append, List.map_cons, List.map_nil, Int.toNat_natCast, this])
            have HN3 := hideIt (show (ts.take (k + 1)).all (inZ us.length) = true by
              rw [HTK.out, List.all_append, HIZ.out]
              simp only [List.all_cons, List.all_nil, Bool.and_true, Bool.true_and]
              exact decide_eq_true ⟨by omega, by omega⟩)
            generalize us[tn] = s0 at *
            subst hDe
            have hx1 : (cfz (ts.take k)).length = k := by simp [cfz]; omega
            have hx2 : (smz (ts.take k) us).length = k := by simp [smz]; omega
            have HX1 := hideIt hx1
            have HX2 := hideIt hx2
            obtain ⟨xs, hxs⟩ : ∃ xs, xs = cfz (ts.take k) := ⟨_, rfl⟩
            obtain ⟨ys, hys⟩ : ∃ ys, ys = smz (ts.take k) us := ⟨_, rfl⟩
            rw [← hxs] at HO7 HN1 HX1
            rw [← hys] at HO8 HN2 HX2
            have HCS := hideIt (fun (W2 : World) (h : Below W.heap.size w5 W2) => (h.cell (p := ⟨b2, o2 + tn, none⟩) hb2).trans hcs1)
            clear hcs hb2 hcs1 HTK HAT htn hin hx1 hx2 hxs hys
            go_wp2_with (first
              | ((with_reducible refine at_load ?_); refine wpList_ldT (by kernel_rfl) (.tmp 29) rfl (t := ((tn : Int), tc0)) rfl HRG.out ?_)
              | ((with_reducible refine at_store ?_); refine wpList_put rfl _ (.tmp 11) (.tmp 30) rfl w5.heap.size (zc ((tn : Int), tc0)) [.int .i64 0, .int .i64 0] 54 rfl rfl (Blk.new w5 54 [.int .i64 0, .int .i64 0]) isz2 rfl (by simp [Value.oneCell']) ?_; intro w8 ht8 hb8; have c0 := hb8.cell 0; have c1 := hb8.cell 1; have HB8 := hideIt hb8; have HL58 := hideIt (show Below W.heap.size w5 w8 from ht8.below ((below_new w5 (.cells #[.int .i64 0, .int .i64 0] 54)).mono HLW.out.size) HLW.out.size); have hl5 : Below w5.heap.size w5 w8 := ht8.below (below_new w5 (.cells #[.int .i64 0, .int .i64 0] 54)) (Nat.le_refl _); have H78 := hideIt (own_kept HO7.out hl5); have H88 := hideIt (own_kept HO8.out hl5); clear ht8 hb8 hl5)
              | (go_at_call 32; refine (HI2.out _).mono ?_; rintro e w2 ⟨rfl, rfl⟩; clear HI2))
            have HAS := hideIt (show AS W.heap.size w5.heap.size ((tn : Int), tc0) w5 w8 (.slice A7 k c7) (.slice A8 k c8) xs ys from ⟨HL58.out, Nat.le_trans HLW.out.size HL58.out.size, HB8.out, by rw [HX1.out]; exact H78.out, by rw [HX2.out]; exact H88.out⟩)
            have HAD := hideIt HAS.out.drew
            obtain ⟨w9, hw9⟩ : ∃ W, W = w8.drew := ⟨_, rfl⟩
            rw [← hw9] at HAD
            have HKS := hideIt (fun (W2 : World) (bb : Array Bool) (v7 v8 : Value) (xs : List Int) (ys : List (List UInt8)) (h : AS W.heap.size w5.heap.size ((tn : Int), tc0) w5 W2 v7 v8 xs ys) => show Hooks [(14, fun W => W.cell? ⟨w5.heap.size, 1, none⟩ = some (.int .i64 tc0)), (14, fun W => W.cell? ⟨w5.heap.size, 0, none⟩ = some (.int .i64 (tn : Int))), (11, fun W => W.cell? ⟨b2, o2 + tn, none⟩ = some (sv s0))] bb W2 from
              Hooks.add (h.tb.cell 1) (Hooks.add (h.tb.cell 0) (Hooks.add (HCS.out W2 h.low) (Hooks.nil bb W2))))
            have hk1 : k + 1 ≤ 100000 := by omega
            clear c0 c1 HAS HB8 HL58 H78 H88
            refine loads_begin_n 15 [(14, fun W => W.cell? ⟨w5.heap.size, 1, none⟩ = some (.int .i64 tc0)), (14, fun W => W.cell? ⟨w5.heap.size, 0, none⟩ = some (.int .i64 (tn : Int))), (11, fun W => W.cell? ⟨b2, o2 + tn, none⟩ = some (sv s0))] rfl (by kernel_rfl) ?_
            rw [← hw9]
            clear hw9
            try simp only [Act.put]
            try simp only [List.setIfInBounds_toArray]
            try simp only [List.set_cons_succ]
            try simp only [List.set_cons_zero]
            refine wpAnyL_move (oi := ⟨some 37, _, _, _, _, _⟩) 0 ?_ rfl (by kernel_rfl) (by kernel_rfl) (by kernel_rfl) (by kernel_rfl) (fun _ _ _ h => h) (by kernel_rfl) ?_ ((HKS.out _ _ _ _ _ _ HAD.out)) ?_
            rotate_left
            · intro W'; go_simp; first | done | with_reducible rfl
            try simp only [Act.put]
            try simp only [List.setIfInBounds_toArray]
            try simp only [List.set_cons_succ]
            try simp only [List.set_cons_zero]
            refine wpAnyL_move (oi := ⟨some 38, _, _, _, _, _⟩) 1 ?_ rfl (by kernel_rfl) (by kernel_rfl) (by kernel_rfl) (by kernel_rfl) (fun _ _ _ h => h) (by kernel_rfl) ?_ ((HKS.out _ _ _ _ _ _ HAD.out)) ?_
            rotate_left
            · intro W'; go_simp; first | done | with_reducible rfl
            try simp only [Act.put]
            try simp only [List.setIfInBounds_toArray]
            try simp only [List.set_cons_succ]
            try simp only [List.set_cons_zero]
            refine wpAnyL_take (oi := ⟨some 39, _, _, _, _, _⟩) 2 14 (.int .i64 tc0) _ rfl (by kernel_rfl) (by kernel_rfl) (by kernel_rfl) (by kernel_rfl) (by kernel_rfl) (by kernel_rfl) (.head _) (fun _ _ _ h => h) (by kernel_rfl) (fun W' hW' => by (try dsimp only at hW'); go_simp) (HKS.out _ _ _ _ _ _ HAD.out) ?_
            try simp only [Act.put]
            try simp only [List.setIfInBounds_toArray]
            try simp only [List.set_cons_succ]
            try simp only [List.set_cons_zero]
            refine wpAnyL_move (oi := ⟨some 42, _, _, _, _, _⟩) 5 ?_ rfl (by kernel_rfl) (by kernel_rfl) (by kernel_rfl) (by kernel_rfl) (fun _ _ _ h => h) (by kernel_rfl) ?_ ((HKS.out _ _ _ _ _ _ HAD.out)) ?_
            rotate_left
            · intro W'; go_simp; first | done | with_reducible rfl
            try simp only [Act.put]
            try simp only [List.setIfInBounds_toArray]
            try simp only [List.set_cons_succ]
            try simp only [List.set_cons_zero]
            refine wpAnyL_move (oi := ⟨some 43, _, _, _, _, _⟩) 6 ?_ rfl (by kernel_rfl) (by kernel_rfl) (by kernel_rfl) (by kernel_rfl) (fun _ _ _ h => h) (by kernel_rfl) ?_ ((HKS.out _ _ _ _ _ _ HAD.out)) ?_
            rotate_left
            · intro W'; go_simp; first | done | with_reducible rfl
            try simp only [Act.put]
            try simp only [List.setIfInBounds_toArray]
            try simp only [List.set_cons_succ]
            try simp only [List.set_cons_zero]
            refine wpAnyL_move (oi := ⟨some 44, _, _, _, _, _⟩) 7 ?_ rfl (by kernel_rfl) (by kernel_rfl) (by kernel_rfl) (by kernel_rfl) (fun _ _ _ h => h) (by kernel_rfl) ?_ ((HKS.out _ _ _ _ _ _ HAD.out)) ?_
            rotate_left
            · intro W'; go_simp; first | done | with_reducible rfl
            try simp only [Act.put]
            try simp only [List.setIfInBounds_toArray]
            try simp only [List.set_cons_succ]
            try simp only [List.set_cons_zero]
            refine wpAnyL_take (oi := ⟨some 45, _, _, _, _, _⟩) 8 14 (.int .i64 (tn : Int)) _ rfl (by kernel_rfl) (by kernel_rfl) (by kernel_rfl) (by kernel_rfl) (by kernel_rfl) (by kernel_rfl) (.tail _ (.head _)) (fun _ _ _ h => h) (by kernel_rfl) (fun W' hW' => by (try dsimp only at hW'); go_simp) (HKS.out _ _ _ _ _ _ HAD.out) ?_
            try simp only [Act.put]
            try simp only [List.setIfInBounds_toArray]
            try simp only [List.set_cons_succ]
            try simp only [List.set_cons_zero]
            refine wpAnyL_move (oi := ⟨some 46, _, _, _, _, _⟩) 9 ?_ rfl (by kernel_rfl) (by kernel_rfl) (by kernel_rfl) (by kernel_rfl) (fun _ _ _ h => h) (by kernel_rfl) ?_ ((HKS.out _ _ _ _ _ _ HAD.out)) ?_
            rotate_left
            · intro W'; go_simp; first | done | with_reducible rfl
            try simp only [Act.put]
            try simp only [List.setIfInBounds_toArray]
            try simp only [List.set_cons_succ]
            try simp only [List.set_cons_zero]
            refine wpAnyL_take (oi := ⟨some 47, _, _, _, _, _⟩) 10 11 (sv s0) _ rfl (by kernel_rfl) (by kernel_rfl) (by kernel_rfl) (by kernel_rfl) (by kernel_rfl) (by kernel_rfl) (.tail _ (.tail _ (.head _))) (fun _ _ _ h => h) (by kernel_rfl) (fun W' hW' => by (try dsimp only at hW'); go_simp) (HKS.out _ _ _ _ _ _ HAD.out) ?_
            try simp only [Act.put]
            try simp only [List.setIfInBounds_toArray]
            try simp only [List.set_cons_succ]
            try simp only [List.set_cons_zero]
            refine wpAnyL_two (oi := ⟨some 40, _, _, _, _, _⟩) (oj := ⟨some 48, _, _, _, _, _⟩) 3 11 (by kernel_rfl) rfl rfl (fun K hK => ?_) (fun K hK => ?_)
            · go_wp2_with fail
              obtain ⟨wa, hwa⟩ : ∃ W, W = w9.alloc (.cells #[.int .i64 tc0] 3) := ⟨_, rfl⟩
              obtain ⟨ba, hba⟩ : ∃ b, b = w9.heap.size := ⟨_, rfl⟩
              have HL7 := hideIt (show Blk wa ba 3 [.int .i64 tc0] by rw [hwa, hba]; exact Blk.new w9 3 [.int .i64 tc0])
              have HAwa := hideIt (by have := HAD.out.alloc (.cells #[.int .i64 tc0] 3); rw [← hwa] at this; exact this)
              rw [← hwa, ← hba]
              clear hwa hba
              refine hK _ _ (HKS.out _ _ _ _ _ _ HAwa.out) ?_
              clear hK K
              try simp only [Act.put]
              try simp only [List.setIfInBounds_toArray]
              try simp only [List.set_cons_succ]
              try simp only [List.set_cons_zero]
              refine wpAnyL_two (oi := ⟨some 41, _, _, _, _, _⟩) (oj := ⟨some 48, _, _, _, _, _⟩) 4 11 (by kernel_rfl) rfl rfl (fun K hK => ?_) (fun K hK => ?_)
              · go_wp2_with ((with_reducible refine at_append ?_); refine wpList_apG (z := .int .i64 0) (size := 1) (bytes := 8) (n := k) (m := 1) (news := [iv tc0]) (xs := xs.map iv) (ad := ⟨ba, 0, none⟩) Tryd.underlying36 (by kernel_rfl) rfl (by decide) (by decide) rfl (.tmp 37) (.tmp 40) rfl rfl (by have := HAwa.out.o7; rw [HX1.out] at this; exact this) rfl rfl (blk_src HL7.out) (ones_one rfl) hk1 HAwa.out.sz ?_; intro v9 wb HO9 HG9 HA9 HB9)
                obtain ⟨Ab, cb7, e9, _, _⟩ := own_form HO9.out
                subst e9
                have HAwb := hideIt (HAwa.out.step7 (v' := .slice Ab (k + 1) cb7) (x := tc0) (by rw [HX1.out]; exact HO9.out) HG9.out HB9.out)
                clear HO9 HG9 HA9 HB9
                refine hK _ _ (HKS.out _ _ _ _ _ _ HAwb.out) ?_
                clear hK K
                try simp only [Act.put]
                try simp only [List.setIfInBounds_toArray]
                try simp only [List.set_cons_succ]
                try simp only [List.set_cons_zero]
                refine wpAnyL_one (o := ⟨some 48, _, _, _, _, _⟩) 11 (by kernel_rfl) rfl (fun K hK => ?_)
                go_wp2_with fail
                obtain ⟨wc, hwc⟩ : ∃ W, W = wb.alloc (.cells #[sv s0] 9) := ⟨_, rfl⟩
                obtain ⟨bc, hbc⟩ : ∃ b, b = wb.heap.size := ⟨_, rfl⟩
                have HL8 := hideIt (show Blk wc bc 9 [sv s0] by rw [hwc, hbc]; exact Blk.new wb 9 [sv s0])
                have HAwc := hideIt (by have := HAwb.out.alloc (.cells #[sv s0] 9); rw [← hwc] at this; exact this)
                rw [← hwc, ← hbc]
                clear hwc hbc
                refine hK _ _ (HKS.out _ _ _ _ _ _ HAwc.out) ?_
                clear hK K
                try simp only [Act.put]
                try simp only [List.setIfInBounds_toArray]
                try simp only [List.set_cons_succ]
                try simp only [List.set_cons_zero]
                refine wpAnyL_one (o := ⟨some 49, _, _, _, _, _⟩) 12 (by kernel_rfl) rfl (fun K hK => ?_)
                go_wp2_with ((with_reducible refine at_append ?_); refine wpList_apG (z := .string ⟨#[]⟩) (size := 1) (bytes := 16) (n := k) (m := 1) (news := [sv s0]) (xs := ys.map sv) (ad := ⟨bc, 0, none⟩) Tryd.underlying44 (by kernel_rfl) rfl (by decide) (by decide) rfl (.tmp 42) (.tmp 48) rfl rfl (by have := HAwc.out.o8; rw [HX2.out] at this; exact this) rfl rfl (blk_src HL8.out) (ones_one rfl) hk1 HAwc.out.sz ?_; intro v9 wd HO9 HG9 HA9 HB9)
                obtain ⟨Ad, cd8, e9, _, _⟩ := own_form HO9.out
                subst e9
                have HAwd := hideIt (HAwc.out.step8 (v' := .slice Ad (k + 1) cd8) (x := s0) (by rw [HX2.out]; exact HO9.out) HG9.out HB9.out)
                clear HO9 HG9 HA9 HB9
                refine hK _ _ (HKS.out _ _ _ _ _ _ HAwd.out) ?_
                clear hK K
                try simp only [Act.put]
                try simp only [List.setIfInBounds_toArray]
                try simp only [List.set_cons_succ]
                try simp only [List.set_cons_zero]
                refine wpAnyL_one (o := ⟨some 8, _, _, _, _, _⟩) 13 (by kernel_rfl) rfl (fun K hK => ?_)
                go_wp2_with fail
                refine hK _ _ (HKS.out _ _ _ _ _ _ HAwd.out) ?_
                clear hK K
                try simp only [Act.put]
                try simp only [List.setIfInBounds_toArray]
                try simp only [List.set_cons_succ]
                try simp only [List.set_cons_zero]
                refine loads_tail 14 (by kernel_rfl) (by kernel_rfl) (by kernel_rfl) (by kernel_rfl) ?_
                simp only [List.drop_succ_cons, List.drop_zero]
                have HE1 := hideIt (HLW.out.trans HAwd.out.low)
                have HE7 := hideIt (by have := HAwd.out.o7; rw [← HN1.out] at this; exact this)
                have HE8 := hideIt (by have := HAwd.out.o8; rw [← HN2.out] at this; exact this)
                have HLE7 := hideIt (show (cfz (ts.take (k + 1))).length = k + 1 by rw [HN1.out, List.length_append, HX1.out]; rfl)
                have HLE8 := hideIt (show (smz (ts.take (k + 1)) us).length = k + 1 by rw [HN2.out, List.length_append, HX2.out]; rfl)
                go_wp2_with fail
                go_roundg (gk - 1)
                case measure => omega
                case rel => exact ⟨k + 1, by omega, by go_num, HE1.out, by have := HE7.out; rw [HLE7.out] at this; exact this, by have := HE8.out; rw [HLE8.out] at this; exact this, HN3.out⟩
              · go_wp2_with fail
                obtain ⟨wc, hwc⟩ : ∃ W, W = wa.alloc (.cells #[sv s0] 9) := ⟨_, rfl⟩
                obtain ⟨bc, hbc⟩ : ∃ b, b = wa.heap.size := ⟨_, rfl⟩
                have HL8 := hideIt (show Blk wc bc 9 [sv s0] by rw [hwc, hbc]; exact Blk.new wa 9 [sv s0])
                have HAwc := hideIt (by have := HAwa.out.alloc (.cells #[sv s0] 9); rw [← hwc] at this; exact this)
                rw [← hwc, ← hbc]
                have HL72 := hideIt (show Blk wc ba 3 [.int .i64 tc0] by rw [hwc]; exact HL7.out.alloc _)
                clear HL7
                have HL7 := HL72
                clear hwc hbc
                refine hK _ _ (HKS.out _ _ _ _ _ _ HAwc.out) ?_
                clear hK K
                try simp only [Act.put]
                try simp only [List.setIfInBounds_toArray]
                try simp only [List.set_cons_succ]
                try simp only [List.set_cons_zero]
                refine wpAnyL_one (o := ⟨some 41, _, _, _, _, _⟩) 4 (by kernel_rfl) rfl (fun K hK => ?_)
                go_wp2_with ((with_reducible refine at_append ?_); refine wpList_apG (z := .int .i64 0) (size := 1) (bytes := 8) (n := k) (m := 1) (news := [iv tc0]) (xs := xs.map iv) (ad := ⟨ba, 0, none⟩) Tryd.underlying36 (by kernel_rfl) rfl (by decide) (by decide) rfl (.tmp 37) (.tmp 40) rfl rfl (by have := HAwc.out.o7; rw [HX1.out] at this; exact this) rfl rfl (blk_src HL7.out) (ones_one rfl) hk1 HAwc.out.sz ?_; intro v9 wb HO9 HG9 HA9 HB9)
                obtain ⟨Ab, cb7, e9, _, _⟩ := own_form HO9.out
                subst e9
                have HAwb := hideIt (HAwc.out.step7 (v' := .slice Ab (k + 1) cb7) (x := tc0) (by rw [HX1.out]; exact HO9.out) HG9.out HB9.out)
                have HL82 := hideIt (HAwc.out.lit8 HL8.out HG9.out)
                clear HL8
                have HL8 := HL82
                clear HO9 HG9 HA9 HB9
                refine hK _ _ (HKS.out _ _ _ _ _ _ HAwb.out) ?_
                clear hK K
                try simp only [Act.put]
                try simp only [List.setIfInBounds_toArray]
                try simp only [List.set_cons_succ]
                try simp only [List.set_cons_zero]
                refine wpAnyL_one (o := ⟨some 49, _, _, _, _, _⟩) 12 (by kernel_rfl) rfl (fun K hK => ?_)
                go_wp2_with ((with_reducible refine at_append ?_); refine wpList_apG (z := .string ⟨#[]⟩) (size := 1) (bytes := 16) (n := k) (m := 1) (news := [sv s0]) (xs := ys.map sv) (ad := ⟨bc, 0, none⟩) Tryd.underlying44 (by kernel_rfl) rfl (by decide) (by decide) rfl (.tmp 42) (.tmp 48) rfl rfl (by have := HAwb.out.o8; rw [HX2.out] at this; exact this) rfl rfl (blk_src HL8.out) (ones_one rfl) hk1 HAwb.out.sz ?_; intro v9 wd HO9 HG9 HA9 HB9)
                obtain ⟨Ad, cd8, e9, _, _⟩ := own_form HO9.out
                subst e9
                have HAwd := hideIt (HAwb.out.step8 (v' := .slice Ad (k + 1) cd8) (x := s0) (by rw [HX2.out]; exact HO9.out) HG9.out HB9.out)
                clear HO9 HG9 HA9 HB9
                refine hK _ _ (HKS.out _ _ _ _ _ _ HAwd.out) ?_
                clear hK K
                try simp only [Act.put]
                try simp only [List.setIfInBounds_toArray]
                try simp only [List.set_cons_succ]
                try simp only [List.set_cons_zero]
                refine wpAnyL_one (o := ⟨some 8, _, _, _, _, _⟩) 13 (by kernel_rfl) rfl (fun K hK => ?_)
                go_wp2_with fail
                refine hK _ _ (HKS.out _ _ _ _ _ _ HAwd.out) ?_
                clear hK K
                try simp only [Act.put]
                try simp only [List.setIfInBounds_toArray]
                try simp only [List.set_cons_succ]
                try simp only [List.set_cons_zero]
                refine loads_tail 14 (by kernel_rfl) (by kernel_rfl) (by kernel_rfl) (by kernel_rfl) ?_
                simp only [List.drop_succ_cons, List.drop_zero]
                have HE1 := hideIt (HLW.out.trans HAwd.out.low)
                have HE7 := hideIt (by have := HAwd.out.o7; rw [← HN1.out] at this; exact this)
                have HE8 := hideIt (by have := HAwd.out.o8; rw [← HN2.out] at this; exact this)
                have HLE7 := hideIt (show (cfz (ts.take (k + 1))).length = k + 1 by rw [HN1.out, List.length_append, HX1.out]; rfl)
                have HLE8 := hideIt (show (smz (ts.take (k + 1)) us).length = k + 1 by rw [HN2.out, List.length_append, HX2.out]; rfl)
                go_wp2_with fail
                go_roundg (gk - 1)
                case measure => omega
                case rel => exact ⟨k + 1, by omega, by go_num, HE1.out, by have := HE7.out; rw [HLE7.out] at this; exact this, by have := HE8.out; rw [HLE8.out] at this; exact this, HN3.out⟩
            · go_wp2_with fail
              obtain ⟨wc, hwc⟩ : ∃ W, W = w9.alloc (.cells #[sv s0] 9) := ⟨_, rfl⟩
              obtain ⟨bc, hbc⟩ : ∃ b, b = w9.heap.size := ⟨_, rfl⟩
              have HL8 := hideIt (show Blk wc bc 9 [sv s0] by rw [hwc, hbc]; exact Blk.new w9 9 [sv s0])
              have HAwc := hideIt (by have := HAD.out.alloc (.cells #[sv s0] 9); rw [← hwc] at this; exact this)
              rw [← hwc, ← hbc]
              clear hwc hbc
              refine hK _ _ (HKS.out _ _ _ _ _ _ HAwc.out) ?_
              clear hK K
              try simp only [Act.put]
              try simp only [List.setIfInBounds_toArray]
              try simp only [List.set_cons_succ]
              try simp only [List.set_cons_zero]
              refine wpAnyL_one (o := ⟨some 40, _, _, _, _, _⟩) 3 (by kernel_rfl) rfl (fun K hK => ?_)
              go_wp2_with fail
              obtain ⟨wa, hwa⟩ : ∃ W, W = wc.alloc (.cells #[.int .i64 tc0] 3) := ⟨_, rfl⟩
              obtain ⟨ba, hba⟩ : ∃ b, b = wc.heap.size := ⟨_, rfl⟩
              have HL7 := hideIt (show Blk wa ba 3 [.int .i64 tc0] by rw [hwa, hba]; exact Blk.new wc 3 [.int .i64 tc0])
              have HAwa := hideIt (by have := HAwc.out.alloc (.cells #[.int .i64 tc0] 3); rw [← hwa] at this; exact this)
              rw [← hwa, ← hba]
              have HL82 := hideIt (show Blk wa bc 9 [sv s0] by rw [hwa]; exact HL8.out.alloc _)
              clear HL8
              have HL8 := HL82
              clear hwa hba
              refine hK _ _ (HKS.out _ _ _ _ _ _ HAwa.out) ?_
              clear hK K
              try simp only [Act.put]
              try simp only [List.setIfInBounds_toArray]
              try simp only [List.set_cons_succ]
              try simp only [List.set_cons_zero]
              refine wpAnyL_one (o := ⟨some 41, _, _, _, _, _⟩) 4 (by kernel_rfl) rfl (fun K hK => ?_)
              go_wp2_with ((with_reducible refine at_append ?_); refine wpList_apG (z := .int .i64 0) (size := 1) (bytes := 8) (n := k) (m := 1) (news := [iv tc0]) (xs := xs.map iv) (ad := ⟨ba, 0, none⟩) Tryd.underlying36 (by kernel_rfl) rfl (by decide) (by decide) rfl (.tmp 37) (.tmp 40) rfl rfl (by have := HAwa.out.o7; rw [HX1.out] at this; exact this) rfl rfl (blk_src HL7.out) (ones_one rfl) hk1 HAwa.out.sz ?_; intro v9 wb HO9 HG9 HA9 HB9)
              obtain ⟨Ab, cb7, e9, _, _⟩ := own_form HO9.out
              subst e9
              have HAwb := hideIt (HAwa.out.step7 (v' := .slice Ab (k + 1) cb7) (x := tc0) (by rw [HX1.out]; exact HO9.out) HG9.out HB9.out)
              have HL82 := hideIt (HAwa.out.lit8 HL8.out HG9.out)
              clear HL8
              have HL8 := HL82
              clear HO9 HG9 HA9 HB9
              refine hK _ _ (HKS.out _ _ _ _ _ _ HAwb.out) ?_
              clear hK K
              try simp only [Act.put]
              try simp only [List.setIfInBounds_toArray]
              try simp only [List.set_cons_succ]
              try simp only [List.set_cons_zero]
              refine wpAnyL_one (o := ⟨some 49, _, _, _, _, _⟩) 12 (by kernel_rfl) rfl (fun K hK => ?_)
              go_wp2_with ((with_reducible refine at_append ?_); refine wpList_apG (z := .string ⟨#[]⟩) (size := 1) (bytes := 16) (n := k) (m := 1) (news := [sv s0]) (xs := ys.map sv) (ad := ⟨bc, 0, none⟩) Tryd.underlying44 (by kernel_rfl) rfl (by decide) (by decide) rfl (.tmp 42) (.tmp 48) rfl rfl (by have := HAwb.out.o8; rw [HX2.out] at this; exact this) rfl rfl (blk_src HL8.out) (ones_one rfl) hk1 HAwb.out.sz ?_; intro v9 wd HO9 HG9 HA9 HB9)
              obtain ⟨Ad, cd8, e9, _, _⟩ := own_form HO9.out
              subst e9
              have HAwd := hideIt (HAwb.out.step8 (v' := .slice Ad (k + 1) cd8) (x := s0) (by rw [HX2.out]; exact HO9.out) HG9.out HB9.out)
              clear HO9 HG9 HA9 HB9
              refine hK _ _ (HKS.out _ _ _ _ _ _ HAwd.out) ?_
              clear hK K
              try simp only [Act.put]
              try simp only [List.setIfInBounds_toArray]
              try simp only [List.set_cons_succ]
              try simp only [List.set_cons_zero]
              refine wpAnyL_one (o := ⟨some 8, _, _, _, _, _⟩) 13 (by kernel_rfl) rfl (fun K hK => ?_)
              go_wp2_with fail
              refine hK _ _ (HKS.out _ _ _ _ _ _ HAwd.out) ?_
              clear hK K
              try simp only [Act.put]
              try simp only [List.setIfInBounds_toArray]
              try simp only [List.set_cons_succ]
              try simp only [List.set_cons_zero]
              refine loads_tail 14 (by kernel_rfl) (by kernel_rfl) (by kernel_rfl) (by kernel_rfl) ?_
              simp only [List.drop_succ_cons, List.drop_zero]
              have HE1 := hideIt (HLW.out.trans HAwd.out.low)
              have HE7 := hideIt (by have := HAwd.out.o7; rw [← HN1.out] at this; exact this)
              have HE8 := hideIt (by have := HAwd.out.o8; rw [← HN2.out] at this; exact this)
              have HLE7 := hideIt (show (cfz (ts.take (k + 1))).length = k + 1 by rw [HN1.out, List.length_append, HX1.out]; rfl)
              have HLE8 := hideIt (show (smz (ts.take (k + 1)) us).length = k + 1 by rw [HN2.out, List.length_append, HX2.out]; rfl)
              go_wp2_with fail
              go_roundg (gk - 1)
              case measure => omega
              case rel => exact ⟨k + 1, by omega, by go_num, HE1.out, by have := HE7.out; rw [HLE7.out] at this; exact this, by have := HE8.out; rw [HLE8.out] at this; exact this, HN3.out⟩
          · have HI2 := hideIt (fun W2 => show Calls Tryd.prog 32 #[.int .i64 (us.length : Int), .int .i64 tu] W2 (fun e w' => e = .returned (.bool false) ∧ W2 = w') by
              have := HIX.out tu W2
              rwa [decide_eq_false hin] at this)
            have HE := hideIt (HR2.out.trans (if_neg (by rw [HAT.out (by unfold inZ; exact decide_eq_false (fun h => hin h))]; decide)))
            clear HTK HAT hin
            go_wp2_with (first
              | ((with_reducible refine at_load ?_); refine wpList_ldT (by kernel_rfl) (.tmp 29) rfl (t := (tu, tc0)) rfl HRG.out ?_)
              | ((with_reducible refine at_store ?_); refine wpList_put rfl _ (.tmp 11) (.tmp 30) rfl w5.heap.size (zc (tu, tc0)) [.int .i64 0, .int .i64 0] 54 rfl rfl (Blk.new w5 54 [.int .i64 0, .int .i64 0]) isz2 rfl (by simp [Value.oneCell']) ?_; intro w8 ht8 hb8; have HL8 := hideIt (ht8.below (HLW.out.trans ((below_new w5 (.cells #[.int .i64 0, .int .i64 0] 54)).mono HLW.out.size)) HLW.out.size); have c0 := hb8.cell 0; clear ht8 hb8)
              | (go_at_call 32; refine (HI2.out _).mono ?_; rintro e w2 ⟨rfl, rfl⟩; clear HI2))
            go_ret2
            exact ⟨by rw [HE.out]; rfl, HB.out.trans (HL8.out.mono HB.out.size)⟩
        · have hki : ¬ (k : Int) < (ts.length : Int) := by omega
          obtain rfl : k = ts.length := by omega
          have hia := HIZ.out
          have ho7 := Sl.of_own HO7.out
          have ho8 := Sl.of_own HO8.out
          rw [List.take_length] at ho7 ho8 hia
          have HE := hideIt (HR2.out.trans (if_pos hia))
          have c1 := (HBC.out.keep HLW.out).c1
          have hms : ∀ v ∈ smz ts us, v.length ≤ 100000 := fun v hv => by
            obtain ⟨t, ht, rfl⟩ := List.mem_map.1 hv
            exact HBG.out t ht
          have hul2 : ul (smz ts us) ≤ 100000 := by
            rcases Nat.eq_zero_or_pos (smz ts us).length with h | h
            · rw [List.length_eq_zero_iff.1 h]; decide
            · rw [← ul_zero _ h]
              exact hms _ (List.getElem_mem h)
          have hcm := combine_any x.field A7 c7 (cfz ts) A8 c8 (smz ts us) w5 (HT.out.keep HLW.out) (by rw [List.length_map]; omega) hul2 (by rw [List.length_map]; exact ho7) (by rw [List.length_map]; exact ho8)
          rw [List.length_map, List.length_map] at hcm
          have HCM := hideIt hcm
          clear ho7 ho8 hcm hia hms hul2
          generalize cbS x.field (cfz ts) (smz ts us) = rs at *
          generalize cbE x.field (cfz ts) (smz ts us) = re at *
          go_wp2_with (first
            | (go_at_call 50; refine HCM.out.mono ?_; rintro e w6 ⟨rfl, hb6⟩; have HB6 := hideIt hb6; clear hb6 HCM))
          go_ret2
          exact ⟨by rw [HE.out]; rfl, HB.out.trans ((HLW.out.trans (HB6.out.mono HLW.out.size)).mono HB.out.size)⟩
    · have HE := hideIt (HR.out.trans (if_neg fun h => hidx h.2))
      have HI1 := hideIt (fun W2 => show Calls Tryd.prog 32 #[.int .i64 (us.length : Int), .int .i64 pu] W2 (fun e w' => e = .returned (.bool false) ∧ W2 = w') by
        have := HIX.out pu W2
        rwa [decide_eq_false hidx] at this)
      clear hok HR hidx
      rw [HE.out]
      go_enter Tryd.func23, Tryd.ntmps23
      go_wp2_with (first
        | ((with_reducible refine at_load ?_); refine wpList_ldC (by kernel_rfl) (.tmp 3) rfl (p := w.heap.size) (c := c) rfl (by rw [← HWE1.out, ← HWE.out]; exact HBC.out.box) ?_)
        | (go_at_call 49; rw [← HWE1.out, ← HWE.out]; refine HPU.out.mono ?_; rintro e w1 ⟨rfl, hb1⟩; have HB1 := hideIt hb1; have p0 := (HPL.out.kept hb1 HPL.out.lt).cell 0; clear hb1 HPU)
        | (go_at_call 32; refine (HI1.out _).mono ?_; rintro e w2 ⟨rfl, rfl⟩; clear HI1))
      go_ret2
      exact ⟨rfl, HB.out.trans (HB1.out.mono HB.out.size)⟩
end Go.Proofs.YtklngodlijiccaaDoor
