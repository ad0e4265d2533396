/-
  The reference, walked: Parse.
  The reference, walked: ParseAll, first half: sources in memory; reading all codes.
  The reference, walked: ParseAll.
-/
import Derived.Test.YtcogkdnlpjfgdaaGreatDoorRlT
import Derived.Test.YtcogkdnlpjfgdaaGreatDoorRlQ
import Derived.Test.YtcogkdnlpjfgdaaGreatDoorRlI
import Derived.Test.YtcogkdnlpjfgdaaGreatDoorCodI
namespace Go.Proofs.YtcogkdnlpjfgdaaGreatDoor
open Go.RowKit
set_option linter.unusedVariables false
set_option linter.unusedSimpArgs false

theorem cur_len {t : Bs} (s : PS) : (cur (toks t) s).tx.length ≤ t.length := by
  rcases cur_or (toks t) s with h | h
  · obtain ⟨i, hi, hx⟩ := List.getElem_of_mem h
    have := toks_le (t := t) (i := i) (x := cur (toks t) s) (by rw [List.getElem?_eq_getElem hi, hx])
    omega
  · rw [h]; simp [tk0]
/-- What build wants of a code that the grammar lets through. -/
theorem src_ok {t : Bs} {S : PS} (ht : t.length ≤ 2000) (h : (codeP (toks t) S).2.bad < 0) :
    (∀ x ∈ (codeP (toks t) S).1.lines, x.a ≠ [] ∧ (∀ y ∈ x.a, y.n ≤ 1000000) ∧ x.a.length ≤ 100000 ∧ x.b.length ≤ 100000) ∧ (codeP (toks t) S).1.lines.length ≤ 1000000 ∧ (codeP (toks t) S).1.name.tx.length ≤ 100000 := by
  have hd : (defP (toks t) S).2.bad < 0 := by rw [codeP_def] at h; exact h
  have hg := def_good hd
  obtain ⟨_, ⟨_, lf, ld, rs, e, hl, _, ha1, _, ha2, hrs, _, he⟩, _⟩ := codeP_ok h
  have hne : ∀ x ∈ (codeP (toks t) S).1.lines, x.a ≠ [] := fun x hx => by
    rw [hl] at hx
    rcases List.mem_cons.1 hx with rfl | hx
    · exact ha1
    · rcases List.mem_cons.1 hx with rfl | hx
      · exact ha2
      · rcases List.mem_append.1 hx with hx | hx
        · exact (hrs x hx).1
        · rcases he with rfl | ⟨lm, rfl, _, ha3⟩
          · cases hx
          · rw [List.mem_singleton] at hx; rw [hx]; exact ha3
  have hk := (toks_of t).2.2
  have hnum : ∀ y, NumK (toks t) y → y.n ≤ 1000000 := fun y hy => by have := (numT_k hy).lt; omega
  have hgd : ∀ x ∈ (codeP (toks t) S).1.lines, (∀ y ∈ x.a, y.n ≤ 1000000) ∧ x.a.length ≤ 100000 ∧ x.b.length ≤ 100000 := fun x hx => by
    rw [codeP_def] at hx
    unfold dLines at hx
    rcases List.mem_cons.1 hx with rfl | hx
    · exact ⟨fun y hy => by rw [List.mem_singleton] at hy; rw [hy]; exact hnum _ hg.f, by simp, by simp⟩
    · rcases List.mem_cons.1 hx with rfl | hx
      · exact ⟨fun y hy => by rw [List.mem_singleton] at hy; rw [hy]; exact hnum _ hg.d, by simp, by simp⟩
      · rcases List.mem_append.1 hx with hx | hx
        · have := hg.rows x hx
          exact ⟨fun y hy => hnum _ (this.a y hy), by have := this.la; omega, by have := this.lb; omega⟩
        · cases hm : (defP (toks t) S).1.dm with
          | none => rw [hm] at hx; cases hx
          | some m =>
            rw [hm] at hx
            dsimp only at hx
            rw [List.mem_singleton] at hx
            rw [hx]
            exact ⟨fun y hy => by rw [List.mem_singleton] at hy; rw [hy]; exact hnum _ (hg.m m hm), by simp, by simp⟩
  refine ⟨fun x hx => ⟨hne x hx, hgd x hx⟩, ?_, by have := cur_len (t := t) (mustP (toks t) kCode S); show (cur (toks t) (mustP (toks t) kCode S)).tx.length ≤ _; omega⟩
  rw [codeP_def]
  unfold dLines
  have := hg.lrows
  rw [List.length_cons, List.length_cons, List.length_append]
  split
  · simp only [List.length_cons, List.length_nil]; omega
  · simp only [List.length_nil]; omega
theorem buildL_at : ∀ (l : List Ln) (c : Cd), (buildL l c).2.2 = 0 → (buildL l c).2.1 = 0
  | [], c, _ => rfl
  | x :: r, c, h => by
    have one : ¬ (1 : Int) = 0 := by decide
    have two : ¬ (2 : Int) = 0 := by decide
    rw [buildL] at h ⊢
    split
    · rename_i q
      rw [if_pos q] at h
      split
      · rename_i q2; rw [if_pos q2] at h; exact absurd h one
      · rename_i q2; rw [if_neg q2] at h; exact buildL_at r _ h
    rename_i q
    rw [if_neg q] at h
    split
    · rename_i q
      rw [if_pos q] at h
      split
      · rename_i q2; rw [if_pos q2] at h; exact absurd h one
      · rename_i q2; rw [if_neg q2] at h; exact buildL_at r _ h
    rename_i q
    rw [if_neg q] at h
    split
    · rename_i q
      rw [if_pos q] at h
      split
      · rename_i q2; rw [if_pos q2] at h; exact absurd h one
      · rename_i q2; rw [if_neg q2] at h; exact buildL_at r _ h
    rename_i q
    rw [if_neg q] at h
    split
    · rename_i q; rw [if_pos q] at h; exact absurd h two
    rename_i q
    rw [if_neg q] at h
    split
    · rename_i q; rw [if_pos q] at h; exact absurd h q
    · rename_i q; rw [if_neg q] at h; exact buildL_at r _ h
theorem buildS_at {s : Sc} (h : (buildS s).2.2 = 0) : (buildS s).2.1 = 0 := by
  unfold buildS at h ⊢
  split
  · rename_i q; rw [if_pos q] at h; exact absurd h (show ¬ (2 : Int) = 0 by decide)
  · rename_i q; rw [if_neg q] at h; exact buildL_at _ _ h
theorem toks_pos (t : Bs) : 0 < (toks t).length := by
  obtain ⟨⟨a, x, h, _⟩, _⟩ := toks_of t
  rw [h]; simp
set_option maxHeartbeats 8000000 in
set_option maxRecDepth 100000 in
theorem rparse_any (t : Bs) (w : World) (hbig : t.length ≤ 9223372036854775807) : Calls Tryz.prog 19 #[sv t] w fun e w' => CodeF w.heap.size (parseC t) e w' ∧ Below w.heap.size w w' := by
  obtain ⟨W0, hW0⟩ : ∃ W, W = w.alloc (.cells #[.string ⟨#[]⟩, .int .i64 0, .int .i64 0, .slice none 0 0, .int .i64 0] 24) := ⟨_, rfl⟩
  have hr0 : Blk W0 w.heap.size 24 [.string ⟨#[]⟩, .int .i64 0, .int .i64 0, .slice none 0 0, .int .i64 0] := by rw [hW0]; exact Blk.new w _ [.string ⟨#[]⟩, .int .i64 0, .int .i64 0, .slice none 0 0, .int .i64 0]
  have hbl0 : Below w.heap.size w W0 := by rw [hW0]; exact below_new w _
  have hs0 : W0.heap.size = w.heap.size + 1 := by rw [hW0]; simp
  have hln := len_c t
  obtain ⟨r, hr⟩ : ∃ r, r = parseC t := ⟨_, rfl⟩
  rw [← hr]
  unfold parseC at hr
  have HR0 := hideIt hr0
  have HBL0 := hideIt hbl0
  have HS0 := hideIt hs0
  have HW0 := hideIt hW0
  by_cases hlen : 2000 < t.length
  · rw [if_pos hlen] at hr
    have HP := hideIt hr
    have hgt : (t.length : Int) > 2000 := by omega
    have z0 := hr0.cell 0
    have z1 := hr0.cell 1
    have z2 := hr0.cell 2
    have z3 := hr0.cell 3
    have z4 := hr0.cell 4
    have f0 := hr0.free 0
    have f1 := hr0.free 1
    have f2 := hr0.free 2
    have f3 := hr0.free 3
    have f4 := hr0.free 4
    rw [hW0] at z0 z1 z2 z3 z4 f0 f1 f2 f3 f4
    clear hlen hr hr0 hbl0 hs0 hW0
    go_enter Tryz.func19, Tryz.ntmps19
    go_wp2_with fail
    rw [← HW0.out]
    rw [HP.out]
    exact bodyPost_ret (res_code rfl _ _ w.heap.size _ _ _ rfl HR0.out Tryz.underlying24 rfl icd) rfl ⟨.inr ⟨two_ne, rfl⟩, HBL0.out⟩
  rw [if_neg hlen] at hr
  have hle : t.length ≤ 2000 := by omega
  have hgt : ¬ (t.length : Int) > 2000 := by omega
  have HTK := hideIt (rtokens_any t hle W0)
  have hll := (toks_of t).2.2
  have hlp := toks_pos t
  have HCO := hideIt (fun (v : Value) (pb : Nat) (hB : W0.heap.size ≤ pb) (W : World) (h : RA (toks t) W pb v ⟨0, -1⟩) (hBW : W0.heap.size ≤ W.heap.size) => rcode_any (toks t) (lst_toks t) v ⟨0, -1⟩ pb W0.heap.size hB W h hlp (by omega) hBW)
  have HKI := hideIt (fun (v : Value) (pb : Nat) (hB : W0.heap.size ≤ pb) (W : World) (h : RA (toks t) W pb v (codeP (toks t) ⟨0, -1⟩).2) (hBW : W0.heap.size ≤ W.heap.size) => rkind_any (toks t) v (codeP (toks t) ⟨0, -1⟩).2 pb W0.heap.size hB 4 W h (codeP_lt (lst_toks t) hlp) (by omega) hBW)
  have HOK := hideIt (fun (h : (kindP (toks t) 4 (codeP (toks t) ⟨0, -1⟩).2).bad < 0) => src_ok (S := ⟨0, -1⟩) hle (kindP_ok h).1)
  generalize codeP (toks t) ⟨0, -1⟩ = cp at *
  generalize kindP (toks t) 4 cp.2 = kp at *
  generalize cur (toks t) cp.2 = xc at *
  obtain ⟨sc, S1⟩ := cp
  dsimp only at hr HCO HKI HOK
  have HRR := hideIt hr
  obtain ⟨l, hl⟩ : ∃ l, l = toks t := ⟨_, rfl⟩
  rw [← hl] at HTK HCO HKI
  have HKB := hideIt (fun (h : kp.bad < 0) => HOK.out h)
  clear hlen hr0 hbl0 hs0 hW0 hll hlp hl HOK hle hbig
  by_cases hbad : kp.bad ≥ 0
  · rw [if_pos hbad] at hr
    have HP := hideIt hr
    clear hr HRR HKB
    go_enter Tryz.func19, Tryz.ntmps19
    go_wp2_with (first
      | (go_at_call 23; rw [← HW0.out]; refine HTK.out.mono ?_; rintro e w1 ⟨⟨A, c, rfl, hts⟩, hb⟩; have HB1 := hideIt hb; have HZ1 := hideIt (HR0.out.kept hb HR0.out.lt); have HM1 : Hid (RA l (w1.alloc (.cells #[.slice A l.length c, .int .i64 0, .int .i64 (-1)] 84)) w1.heap.size (.slice A l.length c) ⟨0, -1⟩) := ⟨Blk.new w1 _ [.slice A l.length c, .int .i64 0, .int .i64 (-1)], own_low (World.ownsRow.alloc hts _) (Nat.zero_le _)⟩; clear hb hts)
      | (go_at_call 46; refine (HCO.out _ _ HB1.out.size _ HM1.out (Nat.le_trans HB1.out.size (below_new w1 _).size)).mono ?_; rintro e w3 ⟨⟨cs, rfl, vl, rfl, hls⟩, hm, hk⟩; obtain ⟨Al, nl, cl, rfl⟩ : ∃ Al nl cl, vl = .slice Al nl cl := (by obtain ⟨css, ho, _⟩ := hls; obtain ⟨A', c', hv, _⟩ := own_form ho; exact ⟨_, _, _, hv⟩); have HM3 := hideIt hm; have HK3 := hideIt (KeepT.trans (KeepT.of_below (HB1.out.trans ((below_new w1 (.cells #[.slice A l.length c, .int .i64 0, .int .i64 (-1)] 84)).mono HB1.out.size)) (Nat.le_refl _)) hk); have HZ3 := hideIt ((HZ1.out.alloc (.cells #[.slice A l.length c, .int .i64 0, .int .i64 (-1)] 84)).keepT hk (by decide)); have HLS := hideIt hls; have HXB := hideIt (Blk.new w3 87 [sv sc.name.tx, .int .i64 (sc.name.ps : Int), .int .i64 (sc.name.kd : Int), .int .i64 (sc.name.n : Int), .slice Al nl cl]); clear hm hk hls)
      | (go_at_call 47; refine (HKI.out _ _ HB1.out.size _ (HM3.out.new _) (Nat.le_trans HK3.out.size (below_new w3 _).size)).mono ?_; rintro e w5 ⟨rfl, hm, hk⟩; have HM5 := hideIt hm; have p2 := hm.blk.cell 2; have HK5 := hideIt ((keepT_alloc HK3.out (Nat.le_refl _) (.cells #[sv sc.name.tx, .int .i64 (sc.name.ps : Int), .int .i64 (sc.name.kd : Int), .int .i64 (sc.name.n : Int), .slice Al nl cl] 87)).trans hk); have HZ5 := hideIt ((HZ3.out.alloc (.cells #[sv sc.name.tx, .int .i64 (sc.name.ps : Int), .int .i64 (sc.name.kd : Int), .int .i64 (sc.name.n : Int), .slice Al nl cl] 87)).keepT hk (by decide)); have HX5 := hideIt (HXB.out.keepT hk (by decide)); have HLS5 := hideIt ((HLS.out.alloc (.cells #[sv sc.name.tx, .int .i64 (sc.name.ps : Int), .int .i64 (sc.name.kd : Int), .int .i64 (sc.name.n : Int), .slice Al nl cl] 87)).keepT hk); clear hm hk))
    have q0 := HZ5.out.cell 0
    have q1 := HZ5.out.cell 1
    have q2 := HZ5.out.cell 2
    have q3 := HZ5.out.cell 3
    have q4 := HZ5.out.cell 4
    have f0 := HZ5.out.free 0
    have f1 := HZ5.out.free 1
    have f2 := HZ5.out.free 2
    have f3 := HZ5.out.free 3
    have f4 := HZ5.out.free 4
    have hne := blk_ne HM5.out.blk HZ5.out (by decide)
    have p3 := (((((HM5.out.blk.store_other hne).store_other hne).store_other hne).store_other hne).store_other hne : Blk (((((w5.setCell ⟨w.heap.size, 0, none⟩ (.string ⟨#[]⟩)).setCell ⟨w.heap.size, 1, none⟩ (.int .i64 0)).setCell ⟨w.heap.size, 2, none⟩ (.int .i64 0)).setCell ⟨w.heap.size, 3, none⟩ (.slice none 0 0)).setCell ⟨w.heap.size, 4, none⟩ (.int .i64 0)) _ _ _).cell 2
    clear hne
    go_region
    go_wp2_with fail
    have hz := zero_put (B := w.heap.size) HZ5.out (Nat.le_refl _) (.string ⟨#[]⟩) (.int .i64 0) (.int .i64 0) (.slice none 0 0) (.int .i64 0)
    rw [HP.out]
    exact bodyPost_ret (res_code rfl _ _ w.heap.size _ _ _ rfl (blk_drew hz.1) Tryz.underlying24 rfl icd) rfl ⟨.inr ⟨(by decide : (3 : Int) ≠ 0), rfl⟩, ((HBL0.out.trans (HK5.out.below.mono HBL0.out.size)).trans hz.2).drew⟩
  · rw [if_neg hbad] at hr
    have HP := hideIt hr
    have HSK := hideIt (HKB.out (by omega))
    have hbd : ¬ kp.bad ≥ 0 := hbad
    clear hr HRR HKB hbad
    go_enter Tryz.func19, Tryz.ntmps19
    go_wp2_with (first
      | (go_at_call 23; rw [← HW0.out]; refine HTK.out.mono ?_; rintro e w1 ⟨⟨A, c, rfl, hts⟩, hb⟩; have HB1 := hideIt hb; have HZ1 := hideIt (HR0.out.kept hb HR0.out.lt); have HM1 : Hid (RA l (w1.alloc (.cells #[.slice A l.length c, .int .i64 0, .int .i64 (-1)] 84)) w1.heap.size (.slice A l.length c) ⟨0, -1⟩) := ⟨Blk.new w1 _ [.slice A l.length c, .int .i64 0, .int .i64 (-1)], own_low (World.ownsRow.alloc hts _) (Nat.zero_le _)⟩; clear hb hts)
      | (go_at_call 46; refine (HCO.out _ _ HB1.out.size _ HM1.out (Nat.le_trans HB1.out.size (below_new w1 _).size)).mono ?_; rintro e w3 ⟨⟨cs, rfl, vl, rfl, hls⟩, hm, hk⟩; obtain ⟨Al, nl, cl, rfl⟩ : ∃ Al nl cl, vl = .slice Al nl cl := (by obtain ⟨css, ho, _⟩ := hls; obtain ⟨A', c', hv, _⟩ := own_form ho; exact ⟨_, _, _, hv⟩); have HM3 := hideIt hm; have HK3 := hideIt (KeepT.trans (KeepT.of_below (HB1.out.trans ((below_new w1 (.cells #[.slice A l.length c, .int .i64 0, .int .i64 (-1)] 84)).mono HB1.out.size)) (Nat.le_refl _)) hk); have HZ3 := hideIt ((HZ1.out.alloc (.cells #[.slice A l.length c, .int .i64 0, .int .i64 (-1)] 84)).keepT hk (by decide)); have HLS := hideIt hls; have HXB := hideIt (Blk.new w3 87 [sv sc.name.tx, .int .i64 (sc.name.ps : Int), .int .i64 (sc.name.kd : Int), .int .i64 (sc.name.n : Int), .slice Al nl cl]); clear hm hk hls)
      | (go_at_call 47; refine (HKI.out _ _ HB1.out.size _ (HM3.out.new _) (Nat.le_trans HK3.out.size (below_new w3 _).size)).mono ?_; rintro e w5 ⟨rfl, hm, hk⟩; have HM5 := hideIt hm; have p2 := hm.blk.cell 2; have HK5 := hideIt ((keepT_alloc HK3.out (Nat.le_refl _) (.cells #[sv sc.name.tx, .int .i64 (sc.name.ps : Int), .int .i64 (sc.name.kd : Int), .int .i64 (sc.name.n : Int), .slice Al nl cl] 87)).trans hk); have HZ5 := hideIt ((HZ3.out.alloc (.cells #[sv sc.name.tx, .int .i64 (sc.name.ps : Int), .int .i64 (sc.name.kd : Int), .int .i64 (sc.name.n : Int), .slice Al nl cl] 87)).keepT hk (by decide)); have hx5 := HXB.out.keepT hk (by decide); have x0 := hx5.cell 0; have x1 := hx5.cell 1; have x2 := hx5.cell 2; have x3 := hx5.cell 3; have x4 := hx5.cell 4; clear hx5; have HLS5 := hideIt ((HLS.out.alloc (.cells #[sv sc.name.tx, .int .i64 (sc.name.ps : Int), .int .i64 (sc.name.kd : Int), .int .i64 (sc.name.n : Int), .slice Al nl cl] 87)).keepT hk); clear hm hk)
      | (go_at_call 48; refine (rbuild_any sc _ _ w5 HLS5.out HSK.out.2.1 HSK.out.2.2 HSK.out.1).mono ?_; rintro e w6 ⟨h, hb⟩; rcases h with ⟨h0, A6, c6, rfl, hp⟩ | ⟨h0, rfl⟩ <;> have H0 := hideIt h0 <;> have hz6 := HZ5.out.kept hb HZ5.out.lt <;> have HB6 := hideIt hb <;> clear h0 hb <;> have z0 := hz6.cell 0 <;> have z1 := hz6.cell 1 <;> have z2 := hz6.cell 2 <;> have z3 := hz6.cell 3 <;> have z4 := hz6.cell 4 <;> have f0 := hz6.free 0 <;> have f1 := hz6.free 1 <;> have f2 := hz6.free 2 <;> have f3 := hz6.free 3 <;> have f4 := hz6.free 4 <;> have HZ6 := hideIt hz6 <;> clear hz6 <;> try (have HPP := hideIt hp; clear hp)))
    · have hz := zero_put (B := w.heap.size) HZ6.out (Nat.le_refl _) (sv (buildS sc).1.name) (.int .i64 (buildS sc).1.field) (.int .i64 (buildS sc).1.data) (.slice A6 (buildS sc).1.par.length c6) (.int .i64 (buildS sc).1.dom)
      have h21 := buildS_at H0.out
      rw [HP.out, H0.out, h21]
      have hb5 : Below w.heap.size w w5 := HBL0.out.trans (HK5.out.below.mono HBL0.out.size)
      refine bodyPost_ret (res_code rfl _ _ w.heap.size _ _ _ rfl hz.1 Tryz.underlying24 rfl icd) rfl ⟨.inl ⟨rfl, A6, c6, rfl, ?_⟩, (hb5.trans (HB6.out.mono hb5.size)).trans hz.2⟩
      have b0 := HZ6.out
      have b1 := b0.store 0 (sv (buildS sc).1.name)
      have b2 := b1.store 1 (.int .i64 (buildS sc).1.field)
      have b3 := b2.store 2 (.int .i64 (buildS sc).1.data)
      have b4 := b3.store 3 (.slice A6 (buildS sc).1.par.length c6)
      have hp := HPP.out.low (B := w.heap.size) hb5.size
      exact (((((hp.set b0 (by decide) (by decide) 0 _).set b1 (by decide) (by decide) 1 _).set b2 (by decide) (by decide) 2 _).set b3 (by decide) (by decide) 3 _).set b4 (by decide) (by decide) 4 _)
    · have hz := zero_put (B := w.heap.size) HZ6.out (Nat.le_refl _) (.string ⟨#[]⟩) (.int .i64 0) (.int .i64 0) (.slice none 0 0) (.int .i64 0)
      rw [HP.out]
      have hb5 : Below w.heap.size w w5 := HBL0.out.trans (HK5.out.below.mono HBL0.out.size)
      exact bodyPost_ret (res_code rfl _ _ w.heap.size _ _ _ rfl hz.1 Tryz.underlying24 rfl icd) rfl ⟨.inr ⟨H0.out, rfl⟩, (hb5.trans (HB6.out.mono hb5.size)).trans hz.2⟩

/-- Codes as they are written, in memory. -/
def ScsR (w : World) (C : Nat) (v : Value) (xs : List Sc) : Prop := ∃ css : List (List Value), w.ownsRow C 87 5 v xs.length css.flatten ∧ All2 (ScR w C) xs css
section
variable {w w' : World} {C C' B : Nat} {v : Value} {xs : List Sc} {s : Sc} {cs : List Value}
theorem ScR.imp (hT : ∀ v l, LnsR w C v l → LnsR w' C' v l) (s : Sc) (cs : List Value) (h : ScR w C s cs) : ScR w' C' s cs := by
  obtain ⟨v, h1, h2⟩ := h
  exact ⟨v, h1, hT _ _ h2⟩
theorem ScR.len (h : ScR w C s cs) : cs.length = 5 := by
  obtain ⟨v, h1, _⟩ := h
  rw [h1]; rfl
theorem ScsR.keepT (h : ScsR w C v xs) (hk : KeepT B [84] w w') : ScsR w' C v xs := by
  obtain ⟨css, h1, h2⟩ := h
  exact ⟨css, own_keepT h1 hk (by decide), All2.imp (ScR.imp fun v l h => h.keepT hk) h2⟩
theorem ScsR.kept (h : ScsR w C v xs) (hb : Below w.heap.size w w') : ScsR w' C v xs := by
  obtain ⟨css, h1, h2⟩ := h
  exact ⟨css, own_kept h1 hb, All2.imp (ScR.imp fun v l h => h.kept hb) h2⟩
theorem ScsR.nil (w : World) (C : Nat) : ScsR w C (.slice none 0 0) [] := ⟨[], World.ownsRow_nil _ _ _ _, trivial⟩
theorem ScsR.len {A : Option Addr} {n c : Nat} (h : ScsR w C (.slice A n c) xs) : n = xs.length := by
  obtain ⟨css, ho, ha⟩ := h
  obtain ⟨A', c', hv, _⟩ := own_form ho
  injection hv
theorem ScsR.row {A : Option Addr} {n c : Nat} (h : ScsR w C (.slice A n c) xs) {j : Nat} (hj : j < xs.length) :
    ∃ (g : Nat) (Al : Option Addr) (nl cl : Nat), A = some ⟨g, 0, none⟩ ∧ g < w.heap.size ∧
      (∀ k u, [sv (xs[j]).name.tx, .int .i64 ((xs[j]).name.ps : Int), .int .i64 ((xs[j]).name.kd : Int), .int .i64 ((xs[j]).name.n : Int), .slice Al nl cl][k]? = some u → w.cell? ⟨g, j * 5 + k, none⟩ = some u) ∧ LnsR w C (.slice Al nl cl) (xs[j]).lines := by
  obtain ⟨css, ho, ha⟩ := h
  obtain ⟨cs, hc, vl, rfl, h1⟩ := All2.at_ ha (List.getElem?_eq_getElem hj)
  obtain ⟨Al, nl, cl, rfl⟩ : ∃ Al nl cl, vl = .slice Al nl cl := by
    obtain ⟨css, ho, _⟩ := h1
    obtain ⟨A', c', hv, _⟩ := own_form ho
    exact ⟨_, _, _, hv⟩
  have hf := flat_at (P := ScR w C) (k := 5) (fun x cs h => h.len) xs css ha j _ hc
  rcases ho.2 with ⟨h0, h00⟩ | ⟨g, cap, cur, hv, _, hg, _⟩
  · omega
  · injection hv with e1 e2 e3
    subst e1
    refine ⟨g, Al, nl, cl, rfl, (Array.getElem?_eq_some_iff.1 hg).1, fun k u hu => ?_, h1⟩
    have := World.ownsRow.cells ho (g := g) rfl (j * 5 + k) u (hf k u hu)
    rwa [addr_add, Nat.zero_add] at this
end
theorem codeP_i {l : List Tk} {S : PS} (h : (codeP l S).2.bad < 0) : S.i < (codeP l S).2.i := by
  obtain ⟨h1, _⟩ := codeP_ok h
  rw [codeP_def] at h ⊢
  have hg := def_good h
  have he : ∀ R : PS, R.i ≤ (dE l R).2.i := fun R => by
    unfold dE
    split
    · exact mono_one l _ _
    · exact Nat.le_refl _
  have m1 : (dS1 l S).i = S.i + 1 := by
    have h0 : (mustP l kCode S).bad < 0 := by
      have h5 := mustP_ok (show (mustP l [125] (dE l (dR l S).2).2).bad < 0 from h)
      have hE : (dR l S).2.bad < 0 := by
        have h2 := h5.1
        unfold dE at h2
        split at h2
        · exact (oneP_ok h2).1
        · exact h2
      have hR := rows_good l (l.length + 1) true (dS4 l S) [] (fun x hx => by simp at hx) hE
      have h4 := oneP_ok (show (oneP l kData (dS3 l S)).2.bad < 0 from hR.1)
      have h3 := oneP_ok (show (oneP l kField (dS2 l S)).2.bad < 0 from h4.1)
      have h2 := mustP_ok (show (mustP l [123] (kindP l 1 (dS1 l S))).bad < 0 from h3.1)
      exact (kindP_ok h2.1).1
    have := (mustP_ok h0).2.2
    show (mustP l kCode S).i = _
    rw [this]
  have m2 : (dS1 l S).i ≤ (dS2 l S).i := Nat.le_trans (mono_kind l 1 _) (mono_must l _ _)
  have m3 : (dS2 l S).i ≤ (dS3 l S).i := mono_one l _ _
  have m4 : (dS3 l S).i ≤ (dS4 l S).i := mono_one l _ _
  have m5 : (dS4 l S).i ≤ (dR l S).2.i := mono_rows l _ _ _ _
  have m6 := he (dR l S).2
  have m7 : (dE l (dR l S).2).2.i ≤ (defP l S).2.i := mono_must l _ _
  show S.i < (defP l S).2.i
  omega
/-- What build wants of a source. -/
def SOK (s : Sc) : Prop := (∀ x ∈ s.lines, x.a ≠ [] ∧ (∀ y ∈ x.a, y.n ≤ 1000000) ∧ x.a.length ≤ 100000 ∧ x.b.length ≤ 100000) ∧ s.lines.length ≤ 1000000 ∧ s.name.tx.length ≤ 100000
/-- One more source: 'append(list, source)', the source in a literal's own block. -/
theorem wpList_src {W : World} {ops : Array Oper} {rest : List Oper} {o : Oper} {a : Act} {Q : Exit → Act → World → Prop} (hgd : o.guard = none) (s y : Operand)
    (ho : o.op = .call { callee := .builtin .append, args := #[s, y], argTypes := #[92, 92] }) (C : Nat) (hC : C ≤ W.heap.size) (v : Value) (xs : List Sc) (h : ScsR W C v xs) (x : Sc) (cs : List Value) (hx : ScR W C x cs)
    (hlen : xs.length ≤ 1000000) (hs : a.eval s = v) (hy : a.eval y = .slice (some ⟨W.heap.size, 0, none⟩) 1 1)
    (hK : ∀ A n c w', ScsR w' C (.slice A n c) (xs ++ [x]) → Below C W w' → (∀ g t cs, t ≠ 87 → Blk W g t cs → Blk w' g t cs) → (∀ B v l, RtS W B v l → RtS w' B v l) → wpList Tryz.prog ops Q rest (a.put o.dst (.slice A n c)) w') :
    wpList Tryz.prog ops Q (o :: rest) a (W.alloc (.cells cs.toArray 87)) := by
  obtain ⟨i0, hi0, hz0, hz1, hz2⟩ := info_three (show (Tryz.prog.info? 87).map (fun i => (i.zero, i.size, i.bytes)) = some (some (.agg #[.string ⟨#[]⟩, .int .i64 0, .int .i64 0, .int .i64 0, .slice none 0 0]), 5, 64) by kernel_rfl)
  obtain ⟨css, h1, h2⟩ := h
  have hones : ∀ u ∈ cs, u.oneCell' = true := by
    obtain ⟨vl, rfl, hl⟩ := hx
    obtain ⟨c2, ho2, _⟩ := hl
    obtain ⟨A, c, rfl, _⟩ := own_form ho2
    intro u hu
    simp only [List.mem_cons, List.not_mem_nil, or_false] at hu
    rcases hu with rfl | rfl | rfl | rfl | rfl <;> rfl
  refine wpList_app2 hgd s y 92 ho C 87 i0 _ 5 64 Tryz.underlying92 hi0 hz0 hz1 hz2 rfl (by decide) v xs.length css.flatten hs (World.ownsRow.alloc h1 _) _ _ 1 1 cs hy (sl_cells W 87 cs 5 hx.len) hones (by unfold maxLen; omega) (by omega) (Nat.le_trans hC (below_new W _).size) ?_
  intro v' w' ho' hg'
  have hT : ∀ B v l, RtS W B v l → RtS w' B v l := fun B v l h => World.ownsRow.kept (World.ownsRow.alloc h (.cells cs.toArray 87)) hg' (own_apart (World.ownsRow.alloc h (.cells cs.toArray 87)) (World.ownsRow.alloc h1 (.cells cs.toArray 87)) (by decide))
  have hL : ∀ v l, LnsR W C v l → LnsR w' C v l := fun v l h => h.imp (fun v l h => hT C v l h) (fun ys n h => World.ownsRow.kept (World.ownsRow.alloc h (.cells cs.toArray 87)) hg' (own_apart (World.ownsRow.alloc h (.cells cs.toArray 87)) (World.ownsRow.alloc h1 (.cells cs.toArray 87)) (by decide)))
  obtain ⟨A', c', hv', _⟩ := own_form ho'
  subst hv'
  refine hK _ _ _ w' ⟨css ++ [cs], ?_, ?_⟩ ?_ ?_ hT
  · rw [List.length_append, List.flatten_append]; simpa using ho'
  · exact All2.snoc (ScR.imp hL x cs hx) (All2.imp (ScR.imp hL) h2)
  · exact below_grown ((Below.refl _ _).alloc hC _) (World.ownsRow.alloc h1 _) (Nat.le_refl _) (Nat.le_trans hC (below_new W _).size) hg'
  · exact fun g t ds ht hb => (hb.alloc (.cells cs.toArray 87)).grown hg' (own_ne (World.ownsRow.alloc h1 (.cells cs.toArray 87)) (hb.alloc (.cells cs.toArray 87)) ht)

/-- A code's row of rows stays as it is where a row of codes grows. -/
theorem results3_nil {C : Nat} {a b : Int} {w' : World} : AllE C ([], a, b) (.returned (.tuple #[.slice .none 0 0, .int .i64 a, .int .i64 b])) w' := AllE.none
set_option maxHeartbeats 8000000 in
set_option maxRecDepth 100000 in
theorem rparseAll_any (t : Bs) (w : World) (hbig : t.length ≤ 9223372036854775807) : Calls Tryz.prog 21 #[sv t] w fun e w' => AllE w.heap.size (parseAllC t) e w' ∧ Below w.heap.size w w' := by
  obtain ⟨i0, hi0, hz0, hz1, hz2⟩ := info_three (show (Tryz.prog.info? 24).map (fun i => (i.zero, i.size, i.bytes)) = some (some (.agg #[.string ⟨#[]⟩, .int .i64 0, .int .i64 0, .slice none 0 0, .int .i64 0]), 5, 64) by kernel_rfl)
  have hln := len_c t
  obtain ⟨r, hr⟩ : ∃ r, r = parseAllC t := ⟨_, rfl⟩
  rw [← hr]
  unfold parseAllC at hr
  by_cases hlen : 2000 < t.length
  · rw [if_pos hlen] at hr
    have HP := hideIt hr
    have hgt : (t.length : Int) > 2000 := by omega
    clear hlen hr
    go_enter Tryz.func21, Tryz.ntmps21
    go_wp2_with fail
    refine bodyPost_ret (results_tmp3 rfl _ _ _) rfl ?_
    rw [HP.out]
    exact ⟨AllE.none, Below.refl _ _⟩
  rw [if_neg hlen] at hr
  have hle : t.length ≤ 2000 := by omega
  have hgt : ¬ (t.length : Int) > 2000 := by omega
  have HTK := hideIt (rtokens_any t hle w)
  have hll := (toks_of t).2.2
  have hlp := toks_pos t
  have HSR := hideIt (fun (S : PS) (h : (codeP (toks t) S).2.bad < 0) => show SOK (codeP (toks t) S).1 from src_ok (S := S) hle h)
  have hlst := lst_toks t
  obtain ⟨l, hl⟩ : ∃ l, l = toks t := ⟨_, rfl⟩
  rw [← hl] at HTK hll hlp hlst hr HSR
  have hl2 : l.length ≤ 2001 := by omega
  have HCO := hideIt (fun (v : Value) (pb : Nat) (S : PS) (hi : S.i < l.length) (hB : w.heap.size ≤ pb) (W : World) (h : RA l W pb v S) (hBW : w.heap.size ≤ W.heap.size) => rcode_any l hlst v S pb w.heap.size hB W h hi (by omega) hBW)
  have HLT := hideIt (fun (S : PS) (hi : S.i < l.length) => codeP_lt (S := S) hlst hi)
  obtain ⟨R, hR⟩ : ∃ R, R = allG l (l.length + 1) ⟨0, -1⟩ [] := ⟨_, rfl⟩
  rw [← hR] at hr
  have HR := hideIt hR
  have HRR := hideIt hr
  have HLP := hideIt hlp
  clear hlen hr hll hl hle hbig hR hlst hlp
  go_enter Tryz.func21, Tryz.ntmps21
  go_wp2_with (go_at_call 23; refine HTK.out.mono ?_; rintro e w1 ⟨⟨A, c, rfl, hts⟩, hb⟩; have HB1 := hideIt hb; have HM1 : Hid (RA l (w1.alloc (.cells #[.slice A l.length c, .int .i64 0, .int .i64 (-1)] 84)) w1.heap.size (.slice A l.length c) ⟨0, -1⟩) := ⟨Blk.new w1 _ [.slice A l.length c, .int .i64 0, .int .i64 (-1)], own_low (World.ownsRow.alloc hts _) (Nat.zero_le _)⟩; clear hb hts)
  have HK1 : Hid (KeepT w.heap.size [84] w (w1.alloc (.cells #[.slice A l.length c, .int .i64 0, .int .i64 (-1)] 84))) := KeepT.of_below (HB1.out.trans ((below_new w1 _).mono HB1.out.size)) (Nat.le_refl _)
  obtain ⟨pb, hpb⟩ : ∃ pb, pb = w1.heap.size := ⟨_, rfl⟩
  have HPB : Hid (w.heap.size ≤ pb) := by rw [hpb]; exact HB1.out.size
  rw [← hpb] at HM1 ⊢
  generalize hW2 : w1.alloc (.cells #[.slice A l.length c, .int .i64 0, .int .i64 (-1)] 84) = W2 at *
  clear hpb hW2 HB1 HTK hgt hln
  go_loopg [6] (l.length + 1) (fun gk s6 wr => ∃ (S : PS) (out : List Sc) (As : Option Addr) (ns cs : Nat), s6 = .slice As ns cs ∧ out.length + gk ≤ l.length + 1 ∧ Aside (allG l gk S out = R ∧ RA l wr pb (.slice A l.length c) S ∧ KeepT w.heap.size [84] w wr ∧ S.i < l.length ∧ (S.bad < 0 → l.length + 1 ≤ gk + S.i) ∧ ScsR wr w.heap.size (.slice As ns cs) out ∧ (S.bad < 0 → ∀ s ∈ out, SOK s)))
  case atStart => exact ⟨⟨0, -1⟩, [], none, 0, 0, rfl, by simp, HR.out.symm, HM1.out, HK1.out, HLP.out, fun _ => by omega, ScsR.nil _ _, fun _ s hs => by cases hs⟩
  case round =>
    obtain ⟨S, out, As, ns, cs, rfl, hog, HI⟩ := hrel
    obtain ⟨g, c', hv, hgg, _, hcc⟩ := HI.out.2.1.cur HI.out.2.2.2.1
    injection hv with e1 e2 e3
    subst e1 e3
    have p0 := HI.out.2.1.blk.cell 0
    have p1 := HI.out.2.1.blk.cell 1
    have p2 := HI.out.2.1.blk.cell 2
    have q2 : wr.cell? ⟨g, S.i * 4 + 2, none⟩ = some (.int .i64 ((cur l S).kd : Int)) := hcc 2 _ rfl
    have hil : (S.i : Int) < (l.length : Int) := by have := HI.out.2.2.2.1; omega
    have hk4 := i_neq 3 .i64 ((cur l S).kd : Int) 4
    have HCC := hideIt (fun W h hBW => HCO.out (.slice (some ⟨g, 0, none⟩) l.length c) pb S HI.out.2.2.2.1 HPB.out W h hBW)
    have HLL := hideIt (HLT.out S HI.out.2.2.2.1)
    have HOK := hideIt (HSR.out S)
    have HCI := hideIt (@codeP_i l S)
    by_cases hb : S.bad < 0
    · obtain ⟨g1, hg1⟩ : ∃ g1, gk = g1 + 1 := ⟨gk - 1, by have := HI.out.2.2.2.2.1 hb; have := HI.out.2.2.2.1; omega⟩
      have HG := hideIt hg1
      have HNU : Hid (allG l gk S out = if S.bad < 0 ∧ (cur l S).kd ≠ 4 then allG l g1 (codeP l S).2 (out ++ [(codeP l S).1]) else (out, S)) := by show _ = _; rw [hg1, allG]
      by_cases hk : (cur l S).kd = 4
      · have HST : Hid (R = (out, S)) := by have := HI.out.1; rw [HNU.out, if_neg (fun q => q.2 hk)] at this; exact this.symm
        rw [decide_eq_false (fun q => q (by omega))] at hk4
        have HP : Hid (r = ((allB [] out []).1, ((allB [] out []).2.1 : Int), (allB [] out []).2.2)) := by
          have := HRR.out
          rw [HST.out, if_neg (show ¬ 0 ≤ S.bad by omega)] at this
          exact this
        have hbg : ¬ S.bad ≥ 0 := by omega
        have HSO := hideIt (HI.out.2.2.2.2.2.2 hb)
        clear hk hcc hgg hg1
        go_wp2_with fail
        go_quiet (fail)
        generalize hwq : wr.drewN _ = W5 at *
        have HB5 : Hid (Below wr.heap.size wr W5) := by rw [← hwq]; exact below_drewN (Below.refl _ _) _
        clear hwq
        have HS5 := hideIt (HI.out.2.2.2.2.2.1.kept HB5.out)
        have HW5 : Hid (Below w.heap.size w W5) := HI.out.2.2.1.below.trans (HB5.out.mono HI.out.2.2.1.size)
        have h5 := (HI.out.2.1.kept HB5.out).blk.cell 2
        obtain rfl := HS5.out.len
        clear p0 p1 p2 q2 hk4
        go_wp2_with fail
        clear h5 hbg
        obtain ⟨n, hn⟩ : ∃ n, n = out.length := ⟨_, rfl⟩
        rw [← hn] at HS5 hog ⊢
        have HN := hideIt hn
        clear hn
        go_loopg [7, 8] n (fun gk s7 s8 wr => ∃ (k : Nat) (oc : List Cd) (A7 : Option Addr) (c7 : Nat), k + gk = n ∧ oc.length = k ∧ k ≤ 8 ∧ s7 = .slice A7 oc.length c7 ∧ s8 = .int .i64 (k : Int) ∧
          Aside (allB [] out [] = allB ((out.take k).map fun s => s.name.tx) (out.drop k) oc ∧ Below W5.heap.size W5 wr ∧ CdsR wr W5.heap.size (.slice A7 oc.length c7) oc))
        case atStart => exact ⟨0, [], none, 0, by omega, rfl, by omega, rfl, rfl, rfl, Below.refl _ _, CdsR.nil _ _⟩
        case round =>
          obtain ⟨k, oc, A7, c7, hkg, hol, hk8, rfl, rfl, HJ⟩ := hrel
          have HOL := hideIt hol
          clear hol
          by_cases hlt : k < n
          · have hkl : k < out.length := by rw [← HN.out]; exact hlt
            have hsr := HS5.out.kept HJ.out.2.1
            obtain ⟨g5, Al, nl, cl, hA, hg5, hcell, hlns⟩ := hsr.row hkl
            subst hA
            have HCL := hideIt (fun (W : World) (hW : Below wr.heap.size wr W) k' u h => (hW.cell (p := ⟨g5, k * 5 + k', none⟩) hg5).trans (hcell k' u h))
            have hinc := inc_r 3 k (by omega)
            have hji : (k : Int) < (n : Int) := by omega
            have HDR := hideIt (HJ.out.1.trans (congrArg (fun l => allB ((out.take k).map fun s => s.name.tx) l oc) (List.drop_eq_getElem_cons hkl)))
            have HTK := hideIt (take_snoc out k hkl)
            have HSOK := hideIt (HSO.out _ (List.getElem_mem hkl))
            have HLN := hideIt hlns
            have hk8' := i_eql 3 .i64 (k : Int) 8
            have q0 : wr.cell? ⟨g5, k * 5, none⟩ = some (.string (ss (out[k]).name.tx)) := hcell 0 _ rfl
            have q1 : wr.cell? ⟨g5, k * 5 + 1, none⟩ = some (.int .i64 ((out[k]).name.ps : Int)) := hcell 1 _ rfl
            have HDL : Hid (((out.take k).map fun s => s.name.tx).length = k) := by show _ = k; rw [List.length_map, List.length_take]; omega
            generalize out[k] = y at *
            clear hcell hlns hsr hg5
            by_cases h8 : k = 8
            · have HQ : Hid (r = ([], (y.name.ps : Int), 2)) := by
                have h : allB [] out [] = ([], y.name.ps, 2) := by rw [HDR.out, allB, if_pos (by rw [HDL.out]; exact h8)]
                have := HP.out
                rw [h] at this
                exact this
              rw [decide_eq_true (by omega)] at hk8'
              clear h8 hkl
              go_wp2_with fail
              go_quiet (fail)
              go_wp2_with fail
              refine bodyPost_ret (results_tmp3 rfl _ _ _) rfl ?_
              rw [HQ.out]
              exact ⟨AllE.none, HW5.out.trans ((below_drewN HJ.out.2.1 _).mono HW5.out.size)⟩
            · rw [decide_eq_false (by omega)] at hk8'
              have HUB : Hid (allB [] out [] = if (((out.take k).map fun s => s.name.tx).any fun n => decide (n = y.name.tx)) = true then ([], y.name.ps, 4) else if (buildS y).2.2 ≠ 0 then ([], (buildS y).2.1, (buildS y).2.2) else allB (((out.take k).map fun s => s.name.tx) ++ [y.name.tx]) (out.drop (k + 1)) (oc ++ [(buildS y).1])) := by
                show _ = _
                rw [HDR.out, allB, if_neg (by rw [HDL.out]; exact h8)]
              have hk7 : k < 8 := by omega
              clear h8
              go_wp2_with fail
              clear q0 q1
              obtain ⟨g0, rfl⟩ : ∃ x, x = gk := ⟨gk, rfl⟩
              obtain ⟨w2, rfl⟩ : ∃ x, x = wr := ⟨wr, rfl⟩
              go_loopg [9] k (fun gk s9 wr => ∃ i : Nat, i + gk = k ∧ s9 = .int .i64 (i : Int) ∧ Aside ((∀ s ∈ out.take i, s.name.tx ≠ y.name.tx) ∧ Below w2.heap.size w2 wr))
              case atStart => exact ⟨0, by omega, rfl, fun s hs => by simp at hs, Below.refl _ _⟩
              case round =>
                obtain ⟨i, hig, rfl, HX⟩ := hrel
                have q0 : wr.cell? ⟨g5, k * 5, none⟩ = some (.string (ss y.name.tx)) := HCL.out _ HX.out.2 0 _ rfl
                have q1 : wr.cell? ⟨g5, k * 5 + 1, none⟩ = some (.int .i64 (y.name.ps : Int)) := HCL.out _ HX.out.2 1 _ rfl
                by_cases hit : i < k
                · have hil : i < out.length := by omega
                  have hsr := (HS5.out.kept HJ.out.2.1).kept HX.out.2
                  obtain ⟨g6, _, _, _, hA6, _, hcell6, _⟩ := hsr.row hil
                  injection hA6 with hA6
                  injection hA6 with hA6
                  subst hA6
                  have t0 : wr.cell? ⟨g5, i * 5, none⟩ = some (.string (ss (out[i]).name.tx)) := hcell6 0 _ rfl
                  have HTI := hideIt (take_snoc out i hil)
                  have HMI : Hid (out[i] ∈ out.take k) := by
                    show _ ∈ _
                    rw [List.mem_take_iff_getElem]
                    exact ⟨i, by omega, rfl⟩
                  have hinc2 := inc_r 3 i (by omega)
                  have hjk : (i : Int) < (k : Int) := by omega
                  have hin : (i : Int) < (n : Int) := by omega
                  have heq := s_eql 9 (out[i]).name.tx y.name.tx
                  generalize out[i] = z at *
                  clear hcell6 hil hsr
                  by_cases hz : z.name.tx = y.name.tx
                  · rw [decide_eq_true hz] at heq
                    have HQ : Hid (r = ([], (y.name.ps : Int), 4)) := by
                      have h : allB [] out [] = ([], y.name.ps, 4) := by rw [HUB.out, if_pos (List.any_eq_true.2 ⟨z.name.tx, List.mem_map.2 ⟨z, HMI.out, rfl⟩, decide_eq_true hz⟩)]
                      have := HP.out
                      rw [h] at this
                      exact this
                    clear hz
                    go_wp2_with fail
                    go_quiet (fail)
                    go_wp2_with fail
                    go_quiet (fail)
                    go_wp2_with fail
                    refine bodyPost_ret (results_tmp3 rfl _ _ _) rfl ?_
                    rw [HQ.out]
                    exact ⟨AllE.none, HW5.out.trans ((HJ.out.2.1.trans ((below_drewN (below_drewN HX.out.2 _) _).mono HJ.out.2.1.size)).mono HW5.out.size)⟩
                  · rw [decide_eq_false hz] at heq
                    have HZ := hideIt hz
                    clear hz
                    go_wp2_with fail
                    go_quiet (fail)
                    go_wp2_with fail
                    go_roundg (gk - 1)
                    case measure => omega
                    case rel =>
                      refine ⟨i + 1, by omega, by go_num, fun s hs => ?_, below_drewN HX.out.2 _⟩
                      rw [HTI.out] at hs
                      rcases List.mem_append.1 hs with h | h
                      · exact HX.out.1 s h
                      · rw [List.mem_singleton] at h; rw [h]; exact HZ.out
                · obtain rfl : i = k := by omega
                  have hjk : ¬ (i : Int) < (i : Int) := by omega
                  have q2 : wr.cell? ⟨g5, i * 5 + 2, none⟩ = some (.int .i64 (y.name.kd : Int)) := HCL.out _ HX.out.2 2 _ rfl
                  have q3 : wr.cell? ⟨g5, i * 5 + 3, none⟩ = some (.int .i64 (y.name.n : Int)) := HCL.out _ HX.out.2 3 _ rfl
                  have q4 : wr.cell? ⟨g5, i * 5 + 4, none⟩ = some (.slice Al nl cl) := HCL.out _ HX.out.2 4 _ rfl
                  have HNA : Hid ((((out.take i).map fun s => s.name.tx).any fun n => decide (n = y.name.tx)) = false) := by
                    show _ = false
                    rw [List.any_eq_false]
                    intro b hb
                    obtain ⟨s, hs, rfl⟩ := List.mem_map.1 hb
                    simpa using HX.out.1 s hs
                  have HUC : Hid (allB [] out [] = if (buildS y).2.2 ≠ 0 then ([], (buildS y).2.1, (buildS y).2.2) else allB (((out.take i).map fun s => s.name.tx) ++ [y.name.tx]) (out.drop (i + 1)) (oc ++ [(buildS y).1])) := by
                    show _ = _
                    rw [HUB.out, if_neg (by rw [HNA.out]; decide)]
                  have HBU := hideIt (fun (W : World) (hl : LnsR W w.heap.size (.slice Al nl cl) y.lines) => rbuild_any y w.heap.size (.slice Al nl cl) W hl HSOK.out.2.1 HSOK.out.2.2 HSOK.out.1)
                  have HLW := hideIt (HLN.out.kept HX.out.2)
                  have HCW := hideIt (HJ.out.2.2.kept HX.out.2)
                  have HXW : Hid (Below W5.heap.size W5 wr) := HJ.out.2.1.trans (HX.out.2.mono HJ.out.2.1.size)
                  have hol8 : oc.length < 8 := by have := HOL.out; omega
                  obtain ⟨b, hbb⟩ : ∃ b, b = buildS y := ⟨_, rfl⟩
                  rw [← hbb] at HUC HBU
                  have hny := i_neq 25 .i64 b.2.2 0
                  have hn0 : binOp .neq 25 (.int .i64 0) (.int .i64 0) = pure (.bool false) := i_neq 25 .i64 0 0
                  clear hbb HX
                  go_wp2_with (first
                    | ((with_reducible refine at_append ?_); refine wpList_app2 rfl (.tmp 104) (.tmp 106) 34 rfl W5.heap.size 24 i0 (.agg #[.string ⟨#[]⟩, .int .i64 0, .int .i64 0, .slice none 0 0, .int .i64 0]) 5 64 Tryz.underlying34 hi0 hz0 hz1 hz2 rfl (by decide) (.slice A7 oc.length c7) oc.length css.flatten rfl HOWN.out _ _ 1 1 [.string (ss b.1.name), .int .i64 b.1.field, .int .i64 b.1.data, .slice A3 b.1.par.length c3, .int .i64 b.1.dom] rfl (sl_cells2 w3 (.cells #[.string (ss b.1.name), .int .i64 b.1.field, .int .i64 b.1.data, .slice A3 b.1.par.length c3, .int .i64 b.1.dom] 24) 24 [.string (ss b.1.name), .int .i64 b.1.field, .int .i64 b.1.data, .slice A3 b.1.par.length c3, .int .i64 b.1.dom] 5 rfl) (by intro u hu; simp only [List.mem_cons, List.not_mem_nil, or_false] at hu; rcases hu with rfl | rfl | rfl | rfl | rfl <;> rfl) (by unfold maxLen; omega) (by omega) (by simp; omega) ?_; intro v4 w4 ho4 hg4; obtain ⟨A4, c4, rfl, _, _⟩ := own_form ho4; have HO4 := hideIt ho4; have HG4 := hideIt hg4; clear ho4 hg4)
                    | (go_at_call 48; refine (HBU.out _ HLW.out).mono ?_; rintro e w3 ⟨⟨h0, A3, c3, rfl, hp⟩ | ⟨h0, rfl⟩, hb⟩ <;> have HX3 := hideIt (HXW.out.trans (hb.mono HXW.out.size)) <;> have HC3 := hideIt (HCW.out.kept hb) <;> have H0 := hideIt h0 <;> (first | (rw [decide_eq_true h0] at hny) | (clear hny)) <;> clear hb h0 <;> have hw3 := HX3.out.size <;> try (have HPR := hideIt (((hp.low HXW.out.size).alloc (.cells #[.string (ss b.1.name), .int .i64 b.1.field, .int .i64 b.1.data, .slice A3 b.1.par.length c3, .int .i64 b.1.dom] 24)).alloc (.cells #[.string (ss b.1.name), .int .i64 b.1.field, .int .i64 b.1.data, .slice A3 b.1.par.length c3, .int .i64 b.1.dom] 24)); obtain ⟨css, hown, hall⟩ := (HC3.out.alloc (.cells #[.string (ss b.1.name), .int .i64 b.1.field, .int .i64 b.1.data, .slice A3 b.1.par.length c3, .int .i64 b.1.dom] 24)).alloc (.cells #[.string (ss b.1.name), .int .i64 b.1.field, .int .i64 b.1.data, .slice A3 b.1.par.length c3, .int .i64 b.1.dom] 24); have HOWN := hideIt hown; have HALL := hideIt hall; clear hown hall hp)))
                  · go_roundg (g0 - 1)
                    case measure => omega
                    case rel =>
                      refine ⟨i + 1, oc ++ [b.1], A4, c4, by omega, by simp; exact HOL.out, by omega, by simp, by go_num, ?_, ?_, ?_⟩
                      · rw [HUC.out, if_neg (fun q => q H0.out), HTK.out, List.map_append]
                        rfl
                      · have h1 := below_grown (Below.refl W5.heap.size _) HOWN.out (Nat.le_refl _) (by simp; omega) HG4.out
                        exact ((HX3.out.alloc hw3 _).alloc (by simp; omega) _).trans h1
                      · have := CdsR.snoc HOWN.out HALL.out HPR.out HG4.out HO4.out
                        simpa using this
                  · refine bodyPost_ret (results_tmp3 rfl _ _ _) rfl ?_
                    have h : allB [] out [] = ([], b.2.1, b.2.2) := by rw [HUC.out, if_pos H0.out]
                    rw [HP.out, h]
                    exact ⟨AllE.none, HW5.out.trans ((HX3.out.alloc hw3 _).mono HW5.out.size)⟩
          · have hji : ¬ (k : Int) < (n : Int) := by omega
            go_wp2_with fail
            refine bodyPost_ret (results_tmp3 rfl _ _ _) rfl ?_
            have h : allB [] out [] = (oc, 0, 0) := by
              rw [HJ.out.1, List.drop_of_length_le (by rw [← HN.out]; omega)]
              rfl
            rw [HP.out, h]
            exact ⟨⟨A7, c7, rfl, HJ.out.2.2.low HW5.out.size⟩, HW5.out.trans (HJ.out.2.1.mono HW5.out.size)⟩
      · have HST : Hid (allG l g1 (codeP l S).2 (out ++ [(codeP l S).1]) = R) := by have := HI.out.1; rw [HNU.out, if_pos ⟨hb, hk⟩] at this; exact this
        rw [decide_eq_true (show ((cur l S).kd : Int) ≠ 4 by omega)] at hk4
        generalize hcp : codeP l S = cp at *
        generalize cur l S = x at *
        clear hk hcp hg1 hcc hgg
        go_wp2_with fail
        go_quiet (fail)
        generalize hwq : wr.drewN _ = wq at *
        have HBQ : Hid (Below wr.heap.size wr wq) := by rw [← hwq]; exact below_drewN (Below.refl _ _) _
        clear hwq
        have HMQ := hideIt (HI.out.2.1.kept HBQ.out)
        have HKQ := hideIt (HI.out.2.2.1.trans (KeepT.of_below HBQ.out HI.out.2.2.1.size))
        have HSQ := hideIt (HI.out.2.2.2.2.2.1.kept HBQ.out)
        go_wp2_with (first
          | (go_at_call 46; refine (HCC.out _ HMQ.out HKQ.out.size).mono ?_; rintro e w3 ⟨⟨cs3, rfl, vl, rfl, hls⟩, hm, hk⟩; obtain ⟨Al, nl, cl, rfl⟩ : ∃ Al nl cl, vl = .slice Al nl cl := (by obtain ⟨css, ho, _⟩ := hls; obtain ⟨A', c', hv, _⟩ := own_form ho; exact ⟨_, _, _, hv⟩); have HM3 := hideIt hm; have HK3 := hideIt (HKQ.out.trans hk); have HS3 := hideIt (HSQ.out.keepT hk); have HX3 := hideIt (show ScR w3 w.heap.size cp.1 [sv cp.1.name.tx, .int .i64 (cp.1.name.ps : Int), .int .i64 (cp.1.name.kd : Int), .int .i64 (cp.1.name.n : Int), .slice Al nl cl] from ⟨_, rfl, hls.low HKQ.out.size⟩); clear hm hk hls)
          | ((with_reducible refine at_append ?_); refine wpList_src rfl (.tmp 39) (.tmp 42) rfl w.heap.size HK3.out.size _ _ HS3.out _ _ HX3.out (by omega) rfl rfl ?_; intro A9 n9 c9 w4 hl4 hb4 hk4 hr4; have HS4 := hideIt hl4; have HM4 : Hid (RA l w4 pb (.slice (some ⟨g, 0, none⟩) l.length c) cp.2) := ⟨hk4 _ _ _ (by decide) HM3.out.blk, hr4 _ _ _ HM3.out.tok⟩; have HK4 := hideIt (HK3.out.since hb4 (Nat.le_refl _)); clear hl4 hb4 hk4 hr4))
        go_roundg g1
        case measure => have := HG.out; omega
        case rel =>
          refine ⟨cp.2, out ++ [cp.1], A9, n9, c9, rfl, by have := HG.out; simp; omega, HST.out, HM4.out, HK4.out, HLL.out, fun hq => ?_, HS4.out, fun hq s hs => ?_⟩
          · have h1 := HCI.out hq
            have h2 := HI.out.2.2.2.2.1 hb
            have := HG.out
            omega
          · rcases List.mem_append.1 hs with h | h
            · exact HI.out.2.2.2.2.2.2 hb s h
            · rw [List.mem_singleton] at h; rw [h]; exact HOK.out hq
    · have HST : Hid (R = (out, S)) := by
        have := HI.out.1
        cases gk with
        | zero => exact this.symm
        | succ g1 => rw [allG, if_neg (fun q => hb q.1)] at this; exact this.symm
      have HP : Hid (r = ([], S.bad, 3)) := by
        have := HRR.out
        rw [HST.out, if_pos (show 0 ≤ S.bad by omega)] at this
        exact this
      have hbd : decide (S.bad < 0) = false := decide_eq_false hb
      have hbg : S.bad ≥ 0 := by omega
      clear hb hcc hgg hk4
      go_wp2_with fail
      go_quiet (fail)
      go_wp2_with fail
      go_region
      go_wp2_with fail
      refine bodyPost_ret (results_tmp3 rfl _ _ _) rfl ?_
      rw [HP.out]
      exact ⟨AllE.none, (HI.out.2.2.1.below.trans ((below_drewN (Below.refl _ _) _).mono HI.out.2.2.1.size)).drew⟩

end Go.Proofs.YtcogkdnlpjfgdaaGreatDoor
