/-
  The walk of the law: Other gaps between the tokens of a printed text do not change the code that is parsed (P7.7).
-/
import Derived.Test.YtcogkdnlpjfgdaaGreatDoorLaidS
namespace Go.Proofs.YtcogkdnlpjfgdaaGreatDoor.langSpaces
open Go.RowKit
set_option linter.unusedVariables false
set_option linter.unusedSimpArgs false

theorem blk_tok {W : World} {g : Nat} {t : Tk} (h : Blk W g 46 [sv t.tx, .int .i64 (t.ps : Int), .int .i64 (t.kd : Int), .int .i64 (t.n : Int)]) : W.cell? ⟨g, 0, none⟩ = some (sv t.tx) ∧ W.cell? ⟨g, 1, none⟩ = some (.int .i64 (t.ps : Int)) ∧ W.cell? ⟨g, 2, none⟩ = some (.int .i64 (t.kd : Int)) ∧ W.cell? ⟨g, 3, none⟩ = some (.int .i64 (t.n : Int)) :=
  ⟨h.cell 0, h.cell 1, h.cell 2, h.cell 3⟩
structure SI (w2 wr : World) (gb : Nat) (ts : List Tk) (i k : Nat) (O : Bs) : Prop where
  bel : Below gb w2 wr
  ok8 : OK8 gb w2 wr
  ib : IB gb O wr
  sp : Sp ts i O k
  le : O.length ≤ 600 * i
theorem print_zero {x : Cd} (hl : x.par.length ≤ 9223372036854775807) (h : (printX x).2 = 0) : Good x ∧ (printS x).length ≤ 2000 ∧ printX x = (printS x, 0) := by
  unfold printX at h ⊢
  by_cases h1 : checkX x ≠ 0
  · rw [if_pos h1] at h; exact absurd h h1
  · rw [if_neg h1] at h ⊢
    by_cases h2 : 2000 < (printS x).length
    · rw [if_pos h2] at h; exact absurd (show (2 : Int) = 0 from h) (by decide)
    · rw [if_neg h2]
      refine ⟨(checkC_good x).1 ((checkX_zero x (Nat.le_trans hl (by decide))).1 (Classical.not_not.1 h1)), by omega, rfl⟩
set_option maxHeartbeats 8000000 in
set_option maxRecDepth 100000 in
theorem walk (a0 : Cd) (A0 : Option Addr) (c0 : Nat) (A1 : Option Addr) (c1 : Nat) (l1 : List UInt8) (w : World) (x0 : CIn w a0 A0) (n0 : a0.name.length ≤ 9223372036854775807) (x1 : Sl w w.heap.size A1 1 l1.length (l1.map bv)) (m1 : l1.length ≤ c1) (k1 : c1 ≤ maxLen) (s1 : l1.length ≤ 140737488351232) (T1 : TabG w) :
    Calls Tryz.prog 8 #[cdV a0.name a0.field a0.data (.slice A0 a0.par.length c0) a0.dom, .slice A1 l1.length c1] w fun e w' => e = .returned (.bool true) ∧ Below w.heap.size w w' := by
  have HSA := hideIt (fun W (hW : Below w.heap.size w W) => sanity_any W (T1.1.keep hW))
  have HGP := hideIt (fun W (hW : Below w.heap.size w W) j (hj : j < 5) => (hW.cell (p := ⟨0, j, none⟩) T1.2.1).trans (T1.2.2 j hj))
  have HX0 := hideIt (BC.new c0 x0)
  have HCX := hideIt x0
  have HSL := hideIt x1
  have HB0 := hideIt (below_new w (.cells #[sv a0.name, .int .i64 a0.field, .int .i64 a0.data, .slice A0 a0.par.length c0, .int .i64 a0.dom] 24))
  have HPX := hideIt (fun (h : (printX a0).2 = 0) => print_zero x0.len h)
  have HPR := hideIt (fun A c W (hW : Below w.heap.size w W) (h : CIn W a0 A) => print_any a0 A c W h (T1.1.keep hW))
  obtain ⟨b, hb⟩ : ∃ b, b = (printX a0).2 := ⟨_, rfl⟩
  clear n0 k1 s1
  by_cases h0 : b = 0
  · obtain ⟨hg, hl, hp⟩ := HPX.out (hb ▸ h0)
    rw [hp] at HPR
    have hzl := len_c (printS a0)
    by_cases h5 : 500 < (printS a0).length
    · have h5i : ((printS a0).length : Int) > 500 := by omega
      generalize printS a0 = T at *
      clear hb h0 hg hl hp HPX x0 x1 m1 h5
      go_enter Tryz.func8, Tryz.ntmps8
      go_wp2_with (first
        | (go_at_call 11; refine (HPR.out _ _ _ HB0.out HX0.out.cin).mono ?_; rintro e w1 ⟨rfl, hb⟩; have HX1 := hideIt (HX0.out.keep hb); have HB1 := hideIt (ls7 HB0.out hb); clear hb HPR HX0 HB0)
        | (go_at_call 13; refine (HSA.out _ HB1.out).mono ?_; rintro e w3 ⟨rfl, hb⟩; have HB3 := hideIt (ls7 HB1.out hb); clear hb HSA HB1))
      go_ret
      exact ⟨rfl, HB3.out⟩
    · have h5i : ¬ ((printS a0).length : Int) > 500 := by omega
      have HDONE := hideIt (fun O k h hl => Sp.done (c := a0) hg (O := O) (k := k) h hl)
      have hmap := toks_print hg
      have hstep : ∀ (i : Nat) (hi : i < (toks (printS a0)).length) (O g : Bs) (k : Nat), Sp (codeT a0 ++ [eT]) i O k → Gap g → (g = [] → ¬ (k < 3 ∧ ((toks (printS a0))[i]).kd < 3)) → Sp (codeT a0 ++ [eT]) (i + 1) (O ++ g ++ ((toks (printS a0))[i]).tx) ((toks (printS a0))[i]).kd := by
        intro i hi O g k h1 h2 h3
        have ht : (codeT a0 ++ [eT])[i]? = some (er ((toks (printS a0))[i])) := by
          rw [← hmap, List.getElem?_map, List.getElem?_eq_getElem hi]
          rfl
        have h7 := Sp.step hg h1 ht h2 h3
        exact h7
      have htl : ∀ x ∈ toks (printS a0), x.tx.length ≤ 500 := fun x hx => by
        have := ((toks_of (printS a0)).2.1 x hx).hi
        omega
      have hN : (toks (printS a0)).length = (codeT a0 ++ [eT]).length := by rw [← hmap, List.length_map]
      have hN2 := (toks_of (printS a0)).2.2
      have HST := hideIt (Sp.start a0)
      have HTOK := hideIt (fun W => rtokens_any (printS a0) (by omega) W)
      generalize codeT a0 ++ [eT] = ts at *
      generalize toks (printS a0) = tl at *
      have hN3 : tl.length ≤ 501 := by omega
      have HT0 : Hid (0 < tl.length) := hideIt (by rw [hN]; unfold Sp at HST; obtain ⟨l, _, ⟨h, _⟩ | ⟨h, tail, _, h2, _⟩⟩ := HST.out; exact h; rw [← h2]; simp)
      obtain ⟨N, hNN⟩ : ∃ N, N = tl.length := ⟨_, rfl⟩
      have HNN := hideIt hNN
      have HNT := hideIt hN
      rw [← hNN] at HTOK hN3
      have HSTEP := hideIt hstep
      have HTL := hideIt htl
      generalize printS a0 = T at *
      clear hb h0 hg hl hp HPX x0 x1 h5 hmap hstep htl hN hN2 hNN
      obtain ⟨n1, hn1⟩ : ∃ n1, n1 = l1.length := ⟨_, rfl⟩
      have HN1 := hideIt hn1
      rw [← hn1]
      rw [← hn1] at m1
      clear hn1
      go_enter Tryz.func8, Tryz.ntmps8
      go_wp2_with (first
        | (go_at_call 11; refine (HPR.out _ _ _ HB0.out HX0.out.cin).mono ?_; rintro e w1 ⟨rfl, hb⟩; have HX1 := hideIt (HX0.out.keep hb); have HB1 := hideIt (ls7 HB0.out hb); clear hb HPR HX0 HB0)
        | (go_at_call 23; refine (HTOK.out _).mono ?_; rintro e w2 ⟨⟨At, ct, rfl, hr⟩, hb⟩; have HX2 := hideIt (((HX1.out.al _).keep hb)); have HB2 := hideIt (ls7 (la7 HB1.out) hb); have HIB := hideIt (Lib.IsBuilderF.of (builder_kept (builder_new w1) hb)); have HSZ := hideIt (show w1.heap.size < w2.heap.size from Nat.lt_of_lt_of_le (by simp) hb.size); have HBS := hideIt HB1.out.size; have HXL := hideIt HX1.out.box.lt; have HTC := hideIt (tok_cells (by rw [HNN.out] at hr; exact hr) HT0.out); obtain ⟨g, cg, cur, fz, hv, hge, hhp, hcl⟩ := HTC.out; injection hv with e1 e2 e3; subst e1 e3; have HGE := hideIt (show g ≠ w1.heap.size by simp at hge; omega); have HHP := hideIt hhp; have HCL := hideIt hcl; clear hr hb hge hhp hcl e2 HTC HTOK HX1 HB1))
      generalize w1.heap.size = gb at *
      clear hzl h5i
      go_loopg [8, 31] N (fun gk s8 s31 wr => ∃ (i k : Nat) (O : Bs), i + gk = N ∧ s8 = .int .i64 (k : Int) ∧ s31 = .int .i64 (i : Int) ∧ Aside (SI w2 wr gb ts i k O))
      case atStart => exact ⟨0, 3, [], by omega, rfl, rfl, ⟨Below.refl _ _, Lib.OthersKept.refl _ _ _, HIB.out, HST.out, by simp⟩⟩
      case round =>
        obtain ⟨i, k, O, hi, rfl, rfl, HI⟩ := hrel
        have HI := hideIt HI.out
        have hle := HI.out.le
        have hszr : gb < wr.heap.size := Nat.lt_of_lt_of_le HSZ.out HI.out.bel.size
        have HBW := hideIt (HB2.out.trans (HI.out.bel.mono HBS.out))
        by_cases hlt : i < N
        · have hit : i < tl.length := by rw [← HNN.out]; exact hlt
          have hji : (i : Int) < (N : Int) := by omega
          have hinc := inc_w 3 i (by omega)
          have hsp := HSTEP.out i hit
          have htx := HTL.out _ (List.getElem_mem hit)
          have hcell := HCL.out i hit
          have hheap := ok8_heap HI.out.ok8 HHP.out HGE.out (by decide)
          generalize tl[i] = t at *
          have hc2 : ∀ k u, (rtC t)[k]? = some u → wr.cell? ⟨g, i * 4 + k, none⟩ = some u := fun k u hu => (World.cell?_of_block (w := w2) hheap).trans (hcell k u hu)
          have a0' : wr.cell? ⟨g, i * 4, none⟩ = some (sv t.tx) := hc2 0 _ rfl
          have a1' : wr.cell? ⟨g, i * 4 + 1, none⟩ = some (.int .i64 (t.ps : Int)) := hc2 1 _ rfl
          have a2' : wr.cell? ⟨g, i * 4 + 2, none⟩ = some (.int .i64 (t.kd : Int)) := hc2 2 _ rfl
          have a3' : wr.cell? ⟨g, i * 4 + 3, none⟩ = some (.int .i64 (t.n : Int)) := hc2 3 _ rfl
          obtain ⟨W0, hW0⟩ : ∃ W0, W0 = wr.alloc (.cells #[sv t.tx, .int .i64 (t.ps : Int), .int .i64 (t.kd : Int), .int .i64 (t.n : Int)] 46) := ⟨_, rfl⟩
          have HIB0 : Hid (IB gb O W0) := by rw [hW0]; exact Lib.IsBuilderF.alloc HI.out.ib _
          have HBL0 : Hid (Below gb w2 W0) := by rw [hW0]; exact HI.out.bel.alloc (Nat.le_of_lt hszr) _
          have HOK0 : Hid (OK8 gb w2 W0) := by rw [hW0]; exact HI.out.ok8.alloc _
          have HTB0 : Hid (Blk W0 wr.heap.size 46 [sv t.tx, .int .i64 (t.ps : Int), .int .i64 (t.kd : Int), .int .i64 (t.n : Int)]) := by rw [hW0]; exact Blk.new wr _ [sv t.tx, .int .i64 (t.ps : Int), .int .i64 (t.kd : Int), .int .i64 (t.n : Int)]
          have HBW0 : Hid (Below w.heap.size w W0) := by rw [hW0]; exact la7 HBW.out
          have HNE : Hid (wr.heap.size ≠ gb) := hideIt (by omega)
          have HS0 : Hid (gb ≤ W0.heap.size) := by rw [hW0]; exact hideIt (by simp; omega)
          obtain ⟨y0, y1, y2, y3⟩ := blk_tok HTB0.out
          have HSP := hideIt HI.out.sp
          have HSN := hideIt hsp
          have hlO : O.length + 10 ≤ 600 * 501 := by omega
          have hO2 : O.length ≤ 600 * i := hle
          clear hsp hcell hheap hc2 hit hle HI
          by_cases hkk : k < 3 ∧ t.kd < 3
          · have k1 : (k : Int) < 3 := by omega
            have k2 : (t.kd : Int) < 3 := by omega
            by_cases hby : i < n1
            · have hbi : (i : Int) < (n1 : Int) := by omega
              have hbl : i < l1.length := by rw [← HN1.out]; exact hby
              obtain ⟨bb, ob, ub, hAb, hbb, hub, hcb⟩ := HSL.out.at_ hbl
              rw [List.getElem?_map, List.getElem?_eq_getElem hbl] at hub
              injection hub with hub
              subst hub hAb
              generalize l1[i] = cb at *
              have hcv := q_int cb
              have hcb0 : W0.cell? ⟨bb, ob + i, none⟩ = some (bv cb) := (HBW0.out.cell (p := ⟨bb, ob + i, none⟩) hbb).trans hcb
              rw [hW0] at hcb0
              obtain ⟨nb, hnb⟩ : ∃ nb, nb = cb.toNat := ⟨_, rfl⟩
              have hnl : nb < 256 := by rw [hnb]; exact cb.toNat_lt
              have hbv : bv cb = .int .u8 (nb : Int) := by rw [hnb]
              rw [← hnb] at hcv
              rw [hbv] at hcb0
              obtain ⟨q, hq⟩ : ∃ q, q = nb / 2 := ⟨_, rfl⟩
              obtain ⟨m, hm⟩ : ∃ m, m = q % 5 := ⟨_, rfl⟩
              have hm5 : m < 5 := by omega
              have hquo : binOp .quo 3 (.int .i64 (nb : Int)) (.int .i64 2) = pure (.int .i64 (q : Int)) := by rw [hq]; exact q_quo 3 nb 2 (by decide) (by omega)
              have hre5 : binOp .rem 3 (.int .i64 (q : Int)) (.int .i64 5) = pure (.int .i64 (m : Int)) := by rw [hm]; exact q_rem 3 q 5 (by decide)
              clear hcb hbv hnb hq hm
              have gc := HGP.out W0 HBW0.out m hm5
              have hGG := gapL_gap m hm5
              generalize gapL.getD m [] = G at *
              obtain ⟨hGg, hGn, hGl⟩ := hGG
              have HSI := hideIt (HSN.out O G k HSP.out hGg (fun h => absurd h hGn))
              clear hGg hGn
              have HW0 := hideIt hW0
              rw [hW0] at y0 y1 y2 y3
              clear hkk HSN HSP hW0
              rw [HW0.out] at gc
              go_wp2_with (first
                | (go_at_call 24; rw [← HW0.out]; refine (wsk_any gb O G W0 HIB0.out (by omega) HS0.out).mono ?_; rintro e w3 ⟨rfl, h1, h2, h3⟩; have HIB3 := hideIt h1; have HBL3 := hideIt (HBL0.out.trans h2); have HOK3 := hideIt (HOK0.out.trans h3); have HTB3 := hideIt (ok8_blk h3 HTB0.out HNE.out (by decide)); have HS3 := hideIt (Nat.le_trans HS0.out h2.size); obtain ⟨z0, z1, z2, z3⟩ := blk_tok HTB3.out; clear h1 h2 h3 HIB0 HBL0 HOK0 HTB0 HS0)
                | (go_at_call 24; refine (wsk_any gb (O ++ G) t.tx w3 HIB3.out (by rw [List.length_append]; omega) HS3.out).mono ?_; rintro e w4 ⟨rfl, h1, h2, h3⟩; have HIB4 := hideIt h1; have HBL4 := hideIt (HBL3.out.trans h2); have HOK4 := hideIt (HOK3.out.trans h3); have HTB4 := hideIt (ok8_blk h3 HTB3.out HNE.out (by decide)); clear z0 z1 z2 z3; obtain ⟨z0, z1, z2, z3⟩ := blk_tok HTB4.out; clear h1 h2 h3 HIB3 HBL3 HOK3 HTB3 HS3))
              go_roundg (gk - 1)
              case measure => omega
              case rel => exact ⟨i + 1, t.kd, O ++ G ++ t.tx, by omega, rfl, by go_num, ⟨HBL4.out, HOK4.out, HIB4.out, HSI.out, by rw [List.length_append, List.length_append]; omega⟩⟩
            · have hbi : ¬ (i : Int) < (n1 : Int) := by omega
              have gc := HGP.out W0 HBW0.out 0 (by decide)
              have hGG := gapL_gap 0 (by decide)
              generalize gapL.getD 0 [] = G at *
              obtain ⟨hGg, hGn, hGl⟩ := hGG
              have HSI := hideIt (HSN.out O G k HSP.out hGg (fun h => absurd h hGn))
              clear hGg hGn
              have HW0 := hideIt hW0
              rw [hW0] at y0 y1 y2 y3
              clear hkk HSN HSP hW0
              rw [HW0.out] at gc
              go_wp2_with (first
                | (go_at_call 24; rw [← HW0.out]; refine (wsk_any gb O G W0 HIB0.out (by omega) HS0.out).mono ?_; rintro e w3 ⟨rfl, h1, h2, h3⟩; have HIB3 := hideIt h1; have HBL3 := hideIt (HBL0.out.trans h2); have HOK3 := hideIt (HOK0.out.trans h3); have HTB3 := hideIt (ok8_blk h3 HTB0.out HNE.out (by decide)); have HS3 := hideIt (Nat.le_trans HS0.out h2.size); obtain ⟨z0, z1, z2, z3⟩ := blk_tok HTB3.out; clear h1 h2 h3 HIB0 HBL0 HOK0 HTB0 HS0)
                | (go_at_call 24; refine (wsk_any gb (O ++ G) t.tx w3 HIB3.out (by rw [List.length_append]; omega) HS3.out).mono ?_; rintro e w4 ⟨rfl, h1, h2, h3⟩; have HIB4 := hideIt h1; have HBL4 := hideIt (HBL3.out.trans h2); have HOK4 := hideIt (HOK3.out.trans h3); have HTB4 := hideIt (ok8_blk h3 HTB3.out HNE.out (by decide)); clear z0 z1 z2 z3; obtain ⟨z0, z1, z2, z3⟩ := blk_tok HTB4.out; clear h1 h2 h3 HIB3 HBL3 HOK3 HTB3 HS3))
              go_roundg (gk - 1)
              case measure => omega
              case rel => exact ⟨i + 1, t.kd, O ++ G ++ t.tx, by omega, rfl, by go_num, ⟨HBL4.out, HOK4.out, HIB4.out, HSI.out, by rw [List.length_append, List.length_append]; omega⟩⟩
          · have hg0 : ∀ h : ([] : Bs) = [], ¬ (k < 3 ∧ t.kd < 3) := fun _ => hkk
            clear hg0
            by_cases k3 : k < 3
            · have k1 : (k : Int) < 3 := by omega
              have k2 : ¬ (t.kd : Int) < 3 := by omega
              clear k3
              by_cases hby : i < n1
              · have hbi : (i : Int) < (n1 : Int) := by omega
                have hbl : i < l1.length := by rw [← HN1.out]; exact hby
                obtain ⟨bb, ob, ub, hAb, hbb, hub, hcb⟩ := HSL.out.at_ hbl
                rw [List.getElem?_map, List.getElem?_eq_getElem hbl] at hub
                injection hub with hub
                subst hub hAb
                generalize l1[i] = cb at *
                have hcv := q_int cb
                have hcb0 : W0.cell? ⟨bb, ob + i, none⟩ = some (bv cb) := (HBW0.out.cell (p := ⟨bb, ob + i, none⟩) hbb).trans hcb
                rw [hW0] at hcb0
                obtain ⟨nb, hnb⟩ : ∃ nb, nb = cb.toNat := ⟨_, rfl⟩
                have hnl : nb < 256 := by rw [hnb]; exact cb.toNat_lt
                have hbv : bv cb = .int .u8 (nb : Int) := by rw [hnb]
                rw [← hnb] at hcv
                rw [hbv] at hcb0
                clear hcb hbv hnb
                by_cases hpar : nb % 2 = 1
                · have hrem : binOp .rem 3 (.int .i64 (nb : Int)) (.int .i64 2) = pure (.int .i64 1) := by have := q_rem 3 nb 2 (by decide); rw [hpar] at this; exact this
                  obtain ⟨q, hq⟩ : ∃ q, q = nb / 2 := ⟨_, rfl⟩
                  obtain ⟨m, hm⟩ : ∃ m, m = q % 5 := ⟨_, rfl⟩
                  have hm5 : m < 5 := by omega
                  have hquo : binOp .quo 3 (.int .i64 (nb : Int)) (.int .i64 2) = pure (.int .i64 (q : Int)) := by rw [hq]; exact q_quo 3 nb 2 (by decide) (by omega)
                  have hre5 : binOp .rem 3 (.int .i64 (q : Int)) (.int .i64 5) = pure (.int .i64 (m : Int)) := by rw [hm]; exact q_rem 3 q 5 (by decide)
                  clear hq hm hpar
                  have gc := HGP.out W0 HBW0.out m hm5
                  have hGG := gapL_gap m hm5
                  generalize gapL.getD m [] = G at *
                  obtain ⟨hGg, hGn, hGl⟩ := hGG
                  have HSI := hideIt (HSN.out O G k HSP.out hGg (fun h => absurd h hGn))
                  clear hGg hGn
                  have HW0 := hideIt hW0
                  rw [hW0] at y0 y1 y2 y3
                  clear hkk HSN HSP hW0
                  rw [HW0.out] at gc
                  go_wp2_with (first
                    | (go_at_call 24; rw [← HW0.out]; refine (wsk_any gb O G W0 HIB0.out (by omega) HS0.out).mono ?_; rintro e w3 ⟨rfl, h1, h2, h3⟩; have HIB3 := hideIt h1; have HBL3 := hideIt (HBL0.out.trans h2); have HOK3 := hideIt (HOK0.out.trans h3); have HTB3 := hideIt (ok8_blk h3 HTB0.out HNE.out (by decide)); have HS3 := hideIt (Nat.le_trans HS0.out h2.size); obtain ⟨z0, z1, z2, z3⟩ := blk_tok HTB3.out; clear h1 h2 h3 HIB0 HBL0 HOK0 HTB0 HS0)
                    | (go_at_call 24; refine (wsk_any gb (O ++ G) t.tx w3 HIB3.out (by rw [List.length_append]; omega) HS3.out).mono ?_; rintro e w4 ⟨rfl, h1, h2, h3⟩; have HIB4 := hideIt h1; have HBL4 := hideIt (HBL3.out.trans h2); have HOK4 := hideIt (HOK3.out.trans h3); have HTB4 := hideIt (ok8_blk h3 HTB3.out HNE.out (by decide)); clear z0 z1 z2 z3; obtain ⟨z0, z1, z2, z3⟩ := blk_tok HTB4.out; clear h1 h2 h3 HIB3 HBL3 HOK3 HTB3 HS3))
                  go_roundg (gk - 1)
                  case measure => omega
                  case rel => exact ⟨i + 1, t.kd, O ++ G ++ t.tx, by omega, rfl, by go_num, ⟨HBL4.out, HOK4.out, HIB4.out, HSI.out, by rw [List.length_append, List.length_append]; omega⟩⟩
                · have hrem : binOp .rem 3 (.int .i64 (nb : Int)) (.int .i64 2) = pure (.int .i64 0) := by have := q_rem 3 nb 2 (by decide); rw [show nb % 2 = 0 by omega] at this; exact this
                  clear hpar
                  have HSI := hideIt (HSN.out O [] k HSP.out gap_nil (fun _ => hkk))
                  have HW0 := hideIt hW0
                  rw [hW0] at y0 y1 y2 y3
                  clear hkk HSN HSP hW0
                  go_wp2_with (first
                    | (go_at_call 24; rw [← HW0.out]; refine (wsk_any gb O t.tx W0 HIB0.out (by omega) HS0.out).mono ?_; rintro e w4 ⟨rfl, h1, h2, h3⟩; have HIB4 := hideIt h1; have HBL4 := hideIt (HBL0.out.trans h2); have HOK4 := hideIt (HOK0.out.trans h3); have HTB4 := hideIt (ok8_blk h3 HTB0.out HNE.out (by decide)); obtain ⟨z0, z1, z2, z3⟩ := blk_tok HTB4.out; clear h1 h2 h3 HIB0 HBL0 HOK0 HTB0 HS0))
                  go_roundg (gk - 1)
                  case measure => omega
                  case rel => exact ⟨i + 1, t.kd, O ++ t.tx, by omega, rfl, by go_num, ⟨HBL4.out, HOK4.out, HIB4.out, by have h := HSI.out; rw [List.append_nil] at h; exact h, by rw [List.length_append]; omega⟩⟩
              · have hbi : ¬ (i : Int) < (n1 : Int) := by omega
                have HSI := hideIt (HSN.out O [] k HSP.out gap_nil (fun _ => hkk))
                have HW0 := hideIt hW0
                rw [hW0] at y0 y1 y2 y3
                clear hkk HSN HSP hW0
                go_wp2_with (first
                  | (go_at_call 24; rw [← HW0.out]; refine (wsk_any gb O t.tx W0 HIB0.out (by omega) HS0.out).mono ?_; rintro e w4 ⟨rfl, h1, h2, h3⟩; have HIB4 := hideIt h1; have HBL4 := hideIt (HBL0.out.trans h2); have HOK4 := hideIt (HOK0.out.trans h3); have HTB4 := hideIt (ok8_blk h3 HTB0.out HNE.out (by decide)); obtain ⟨z0, z1, z2, z3⟩ := blk_tok HTB4.out; clear h1 h2 h3 HIB0 HBL0 HOK0 HTB0 HS0))
                go_roundg (gk - 1)
                case measure => omega
                case rel => exact ⟨i + 1, t.kd, O ++ t.tx, by omega, rfl, by go_num, ⟨HBL4.out, HOK4.out, HIB4.out, by have h := HSI.out; rw [List.append_nil] at h; exact h, by rw [List.length_append]; omega⟩⟩
            · have k1 : ¬ (k : Int) < 3 := by omega
              clear k3
              by_cases hby : i < n1
              · have hbi : (i : Int) < (n1 : Int) := by omega
                have hbl : i < l1.length := by rw [← HN1.out]; exact hby
                obtain ⟨bb, ob, ub, hAb, hbb, hub, hcb⟩ := HSL.out.at_ hbl
                rw [List.getElem?_map, List.getElem?_eq_getElem hbl] at hub
                injection hub with hub
                subst hub hAb
                generalize l1[i] = cb at *
                have hcv := q_int cb
                have hcb0 : W0.cell? ⟨bb, ob + i, none⟩ = some (bv cb) := (HBW0.out.cell (p := ⟨bb, ob + i, none⟩) hbb).trans hcb
                rw [hW0] at hcb0
                obtain ⟨nb, hnb⟩ : ∃ nb, nb = cb.toNat := ⟨_, rfl⟩
                have hnl : nb < 256 := by rw [hnb]; exact cb.toNat_lt
                have hbv : bv cb = .int .u8 (nb : Int) := by rw [hnb]
                rw [← hnb] at hcv
                rw [hbv] at hcb0
                clear hcb hbv hnb
                by_cases hpar : nb % 2 = 1
                · have hrem : binOp .rem 3 (.int .i64 (nb : Int)) (.int .i64 2) = pure (.int .i64 1) := by have := q_rem 3 nb 2 (by decide); rw [hpar] at this; exact this
                  obtain ⟨q, hq⟩ : ∃ q, q = nb / 2 := ⟨_, rfl⟩
                  obtain ⟨m, hm⟩ : ∃ m, m = q % 5 := ⟨_, rfl⟩
                  have hm5 : m < 5 := by omega
                  have hquo : binOp .quo 3 (.int .i64 (nb : Int)) (.int .i64 2) = pure (.int .i64 (q : Int)) := by rw [hq]; exact q_quo 3 nb 2 (by decide) (by omega)
                  have hre5 : binOp .rem 3 (.int .i64 (q : Int)) (.int .i64 5) = pure (.int .i64 (m : Int)) := by rw [hm]; exact q_rem 3 q 5 (by decide)
                  clear hq hm hpar
                  have gc := HGP.out W0 HBW0.out m hm5
                  have hGG := gapL_gap m hm5
                  generalize gapL.getD m [] = G at *
                  obtain ⟨hGg, hGn, hGl⟩ := hGG
                  have HSI := hideIt (HSN.out O G k HSP.out hGg (fun h => absurd h hGn))
                  clear hGg hGn
                  have HW0 := hideIt hW0
                  rw [hW0] at y0 y1 y2 y3
                  clear hkk HSN HSP hW0
                  rw [HW0.out] at gc
                  go_wp2_with (first
                    | (go_at_call 24; rw [← HW0.out]; refine (wsk_any gb O G W0 HIB0.out (by omega) HS0.out).mono ?_; rintro e w3 ⟨rfl, h1, h2, h3⟩; have HIB3 := hideIt h1; have HBL3 := hideIt (HBL0.out.trans h2); have HOK3 := hideIt (HOK0.out.trans h3); have HTB3 := hideIt (ok8_blk h3 HTB0.out HNE.out (by decide)); have HS3 := hideIt (Nat.le_trans HS0.out h2.size); obtain ⟨z0, z1, z2, z3⟩ := blk_tok HTB3.out; clear h1 h2 h3 HIB0 HBL0 HOK0 HTB0 HS0)
                    | (go_at_call 24; refine (wsk_any gb (O ++ G) t.tx w3 HIB3.out (by rw [List.length_append]; omega) HS3.out).mono ?_; rintro e w4 ⟨rfl, h1, h2, h3⟩; have HIB4 := hideIt h1; have HBL4 := hideIt (HBL3.out.trans h2); have HOK4 := hideIt (HOK3.out.trans h3); have HTB4 := hideIt (ok8_blk h3 HTB3.out HNE.out (by decide)); clear z0 z1 z2 z3; obtain ⟨z0, z1, z2, z3⟩ := blk_tok HTB4.out; clear h1 h2 h3 HIB3 HBL3 HOK3 HTB3 HS3))
                  go_roundg (gk - 1)
                  case measure => omega
                  case rel => exact ⟨i + 1, t.kd, O ++ G ++ t.tx, by omega, rfl, by go_num, ⟨HBL4.out, HOK4.out, HIB4.out, HSI.out, by rw [List.length_append, List.length_append]; omega⟩⟩
                · have hrem : binOp .rem 3 (.int .i64 (nb : Int)) (.int .i64 2) = pure (.int .i64 0) := by have := q_rem 3 nb 2 (by decide); rw [show nb % 2 = 0 by omega] at this; exact this
                  clear hpar
                  have HSI := hideIt (HSN.out O [] k HSP.out gap_nil (fun _ => hkk))
                  have HW0 := hideIt hW0
                  rw [hW0] at y0 y1 y2 y3
                  clear hkk HSN HSP hW0
                  go_wp2_with (first
                    | (go_at_call 24; rw [← HW0.out]; refine (wsk_any gb O t.tx W0 HIB0.out (by omega) HS0.out).mono ?_; rintro e w4 ⟨rfl, h1, h2, h3⟩; have HIB4 := hideIt h1; have HBL4 := hideIt (HBL0.out.trans h2); have HOK4 := hideIt (HOK0.out.trans h3); have HTB4 := hideIt (ok8_blk h3 HTB0.out HNE.out (by decide)); obtain ⟨z0, z1, z2, z3⟩ := blk_tok HTB4.out; clear h1 h2 h3 HIB0 HBL0 HOK0 HTB0 HS0))
                  go_roundg (gk - 1)
                  case measure => omega
                  case rel => exact ⟨i + 1, t.kd, O ++ t.tx, by omega, rfl, by go_num, ⟨HBL4.out, HOK4.out, HIB4.out, by have h := HSI.out; rw [List.append_nil] at h; exact h, by rw [List.length_append]; omega⟩⟩
              · have hbi : ¬ (i : Int) < (n1 : Int) := by omega
                have HSI := hideIt (HSN.out O [] k HSP.out gap_nil (fun _ => hkk))
                have HW0 := hideIt hW0
                rw [hW0] at y0 y1 y2 y3
                clear hkk HSN HSP hW0
                go_wp2_with (first
                  | (go_at_call 24; rw [← HW0.out]; refine (wsk_any gb O t.tx W0 HIB0.out (by omega) HS0.out).mono ?_; rintro e w4 ⟨rfl, h1, h2, h3⟩; have HIB4 := hideIt h1; have HBL4 := hideIt (HBL0.out.trans h2); have HOK4 := hideIt (HOK0.out.trans h3); have HTB4 := hideIt (ok8_blk h3 HTB0.out HNE.out (by decide)); obtain ⟨z0, z1, z2, z3⟩ := blk_tok HTB4.out; clear h1 h2 h3 HIB0 HBL0 HOK0 HTB0 HS0))
                go_roundg (gk - 1)
                case measure => omega
                case rel => exact ⟨i + 1, t.kd, O ++ t.tx, by omega, rfl, by go_num, ⟨HBL4.out, HOK4.out, HIB4.out, by have h := HSI.out; rw [List.append_nil] at h; exact h, by rw [List.length_append]; omega⟩⟩
        · have hji : ¬ (i : Int) < (N : Int) := by omega
          have hiN : i = ts.length := by rw [← HNT.out, ← HNN.out]; omega
          have hsp := HI.out.sp
          rw [hiN] at hsp
          have HLEN := hideIt (bln_any gb O wr HI.out.ib)
          have HIBW := hideIt HI.out.ib
          have HSW := hideIt (Nat.le_of_lt hszr)
          have HBEL := hideIt HI.out.bel
          by_cases h2 : 2000 < O.length
          · have h2i : (O.length : Int) > 2000 := by omega
            clear h2 hsp hiN hle HI
            go_wp2_with (first
              | (go_at_call 25; refine HLEN.out.mono ?_; rintro e w4 ⟨rfl, rfl⟩)
              | (go_at_call 13; refine (HSA.out _ HBW.out).mono ?_; rintro e w3 ⟨rfl, hb⟩; have HB3 := hideIt (ls7 HBW.out hb); clear hb HSA))
            go_ret
            exact ⟨rfl, HB3.out⟩
          · have h2i : ¬ (O.length : Int) > 2000 := by omega
            have hpc := HDONE.out O k hsp (by omega)
            have HP := hideIt (fun W => (parse_any O W).mono (R' := fun e w' => (∃ A c, e = .returned (.tuple #[cdV a0.name a0.field a0.data (.slice A a0.par.length c) a0.dom, .int .i64 0, .int .i64 0]) ∧ CIn w' a0 A) ∧ Below W.heap.size W w') (fun e w' h => ⟨by
              have h1 := code_out h.1
              rw [hpc] at h1
              exact h1, h.2⟩))
            have HSM := hideIt (fun A A' c c' W (h : CIn W a0 A) (h' : CIn W a0 A') => show Calls Tryz.prog 17 #[cdV a0.name a0.field a0.data (.slice A a0.par.length c) a0.dom, cdV a0.name a0.field a0.data (.slice A' a0.par.length c') a0.dom] W (fun e w' => e = .returned (.bool true) ∧ Below W.heap.size W w') by
              have h := rsame_any a0 a0 A A' c c' W h h'
              rw [sameB_self] at h
              exact h)
            have HXK := hideIt (fun W (hW : Below gb w2 W) => (⟨HX2.out.box.kept hW HXL.out, HCX.out.keep (HB2.out.trans (hW.mono HBS.out))⟩ : BC W w.heap.size a0 A0 c0))
            clear h2 hsp hiN hle HI hpc
            go_wp2_with (first
              | (go_at_call 25; refine HLEN.out.mono ?_; rintro e w4 ⟨rfl, rfl⟩)
              | (go_at_call 26; refine (bsk_any gb O _ HIBW.out HSW.out).mono ?_; rintro e w5 ⟨rfl, hb⟩; have HX5 := hideIt (HXK.out _ (HBEL.out.trans hb)); have HB5 := hideIt (HBW.out.trans (hb.mono HBS.out)); clear hb)
              | (go_at_call 18; refine (HP.out _).mono ?_; rintro e w6 ⟨⟨A6, c6, rfl, hc⟩, hb⟩; have HY6 := hideIt (BC.new c6 hc); have HX6 := hideIt ((HX5.out.keep hb).al (.cells #[sv a0.name, .int .i64 a0.field, .int .i64 a0.data, .slice A6 a0.par.length c6, .int .i64 a0.dom] 24)); have HB6 := hideIt (la7 (o := .cells #[sv a0.name, .int .i64 a0.field, .int .i64 a0.data, .slice A6 a0.par.length c6, .int .i64 a0.dom] 24) (ls7 HB5.out hb)); clear hc hb HP HX5 HB5)
              | (go_at_call 13; refine (HSA.out _ HB6.out).mono ?_; rintro e w7 ⟨rfl, hb⟩; have HX7 := hideIt (HX6.out.keep hb); have HY7 := hideIt (HY6.out.keep hb); have HB7 := hideIt (ls7 HB6.out hb); have x0 := HX7.out.box.cell 0; have x1 := HX7.out.box.cell 1; have x2 := HX7.out.box.cell 2; have x3 := HX7.out.box.cell 3; have x4 := HX7.out.box.cell 4; have y0 := HY7.out.box.cell 0; have y1 := HY7.out.box.cell 1; have y2 := HY7.out.box.cell 2; have y3 := HY7.out.box.cell 3; have y4 := HY7.out.box.cell 4; clear hb HSA HX6 HY6 HB6)
              | (go_at_call 17; refine (HSM.out _ _ _ _ _ HX7.out.cin HY7.out.cin).mono ?_; rintro e w8 ⟨rfl, hb⟩; have HB8 := hideIt (ls7 HB7.out hb); clear hb HSM HX7 HY7 HB7 x0 x1 x2 x3 x4 y0 y1 y2 y3 y4))
            go_ret
            exact ⟨rfl, HB8.out⟩
  · have en := i_neq 25 .i64 b 0
    rw [decide_eq_true h0] at en
    rw [← hb] at HPR
    generalize (printX a0).1 = T at *
    clear h0 hb HPX x0 x1 m1
    go_enter Tryz.func8, Tryz.ntmps8
    go_wp2_with (first
      | (go_at_call 11; refine (HPR.out _ _ _ HB0.out HX0.out.cin).mono ?_; rintro e w1 ⟨rfl, hb⟩; have HX1 := hideIt (HX0.out.keep hb); have HB1 := hideIt (ls7 HB0.out hb); clear hb HPR HX0 HB0)
      | (go_at_call 13; refine (HSA.out _ HB1.out).mono ?_; rintro e w3 ⟨rfl, hb⟩; have HB3 := hideIt (ls7 HB1.out hb); clear hb HSA HB1))
    go_ret
    exact ⟨rfl, HB3.out⟩

end Go.Proofs.YtcogkdnlpjfgdaaGreatDoor.langSpaces
