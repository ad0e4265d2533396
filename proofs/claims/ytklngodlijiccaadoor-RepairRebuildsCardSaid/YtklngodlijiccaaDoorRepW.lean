/-
  The reference's Apply, walked.
-/
import Derived.Test.YtklngodlijiccaaDoorRepV
namespace Go.Proofs.YtklngodlijiccaaDoor
open Go.RowKit
set_option linter.unusedVariables false
set_option linter.unusedSimpArgs false

def inZ (N : Nat) (t : Int × Int) : Bool := decide (0 ≤ t.1 ∧ t.1 < (N : Int))
abbrev cfz (ts : List (Int × Int)) : List Int := ts.map (·.2)
abbrev smz (ts : List (Int × Int)) (us : List (List UInt8)) : List (List UInt8) := ts.map fun t => us.getD t.1.toNat []
/-- What Apply answers. -/
def aplR (x : Cd) (pu : Int) (ts : List (Int × Int)) (us : List (List UInt8)) : List UInt8 × Int :=
  if ¬ wC x = 0 ∧ (us.length : Int) = wC x ∧ 0 ≤ pu ∧ pu < wC x ∧ ¬ ts.length = 0 ∧ ts.all (inZ us.length) = true then (cbS x.field (cfz ts) (smz ts us), cbE x.field (cfz ts) (smz ts us)) else ([], 1)
theorem own_beside {w w' : World} {B B' n n' k k' : Nat} {e e' : TypeId} {v v' : Value} {xs xs' : List Value} (h : w.ownsRow B e k v n xs) (h' : w.ownsRow B' e' k' v' n' xs') (ht : e ≠ e') {o : Obj} (hg : (w.alloc o).grownBy w' v'.ownBlock) : w'.ownsRow B e k v n xs :=
  (own_kept h (below_new w o)).kept hg (own_apart2 (own_kept h (below_new w o)) (own_kept h' (below_new w o)) ht).kept
theorem blk_beside {w w' : World} {B n g : Nat} {e t : TypeId} {v : Value} {xs cs : List Value} (hb : Blk w g t cs) (h' : w.ownsRow B e 1 v n xs) (ht : e ≠ t) {o : Obj} (hg : (w.alloc o).grownBy w' v.ownBlock) : Blk w' g t cs :=
  (hg.block g (by simp; have := hb.lt; omega) (own_ne h' hb ht.symm)).trans (hb.alloc o)
section
variable {ops : Array Oper} {rest : List Oper} {o : Oper} {a : Act} {Q : Exit → Act → World → Prop} {w : World}
theorem wpList_ldT (hw : Region.wanted o (yielded ops a.tmps) = true) (x : Operand) (ho : o.op = .load 54 x) {b off : Nat} {t : Int × Int} (hx : a.eval x = .pointer (some ⟨b, off, none⟩)) (hg : w.rangeAt b off (zc t)) (h : wpList Tryd.prog ops Q rest (a.put o.dst (.agg (zc t).toArray)) w) : wpList Tryd.prog ops Q (o :: rest) a w := by
  refine wpList_wanted hw ?_
  unfold Oper.wp execOp
  simp only [ho, hx, Sem.run_bind, run_loadAt_mid w b off 54 (zc t) _ hg Tryd.underlying54 rfl isz2, Result.andThen_ok, Sem.run_pure]
  exact h
end
theorem Sl.zr {w : World} {B : Nat} {A : Option Addr} {l : List (Int × Int)} (h : Sl w B A 2 l.length (zcs l)) {k : Nat} (hk : k < l.length) : ∃ b off, A = some ⟨b, off, none⟩ ∧ b < B ∧ w.rangeAt b (off + k * 2) (zc l[k]) := by
  obtain ⟨b, off, e, hb, h0, h1⟩ := h.zat hk
  refine ⟨b, off, e, hb, fun j u hj => ?_⟩
  match j, hj with
  | 0, hj => injection hj with hj; subst hj; exact h0
  | 1, hj => injection hj with hj; subst hj; exact h1
set_option maxHeartbeats 2000000 in
set_option maxRecDepth 100000 in
theorem rapply_any (x : Cd) (A : Option Addr) (c : Nat) (w : World) (hx : CIn w x A) (hsm : Sm x) (pu : Int) (ts : List (Int × Int)) (hts : ts.length ≤ 1000) (B : Option Addr) (cb : Nat) (hB : Sl w w.heap.size B 2 ts.length (zcs ts)) (us : List (List UInt8)) (hul : us.length ≤ 1000) (hbig : ∀ u ∈ us, u.length ≤ 100000) (D : Option Addr) (cd : Nat) (hD : Sl w w.heap.size D 1 us.length (us.map sv)) :
    Calls Tryd.prog 24 #[x.v A c, .agg #[.int .i64 pu, .slice B ts.length cb], .slice D us.length cd] w fun e w' => e = .returned (.tuple #[.string (str (aplR x pu ts us).1), .int .i64 (aplR x pu ts us).2]) ∧ Below w.heap.size w w' := by
  obtain ⟨W1, hW1⟩ : ∃ W, W = w.alloc (.cells (x.cs A c).toArray 24) := ⟨_, rfl⟩
  obtain ⟨W, hW⟩ : ∃ W, W = W1.alloc (.cells #[.int .i64 pu, .slice B ts.length cb] 30) := ⟨_, rfl⟩
  have hb1 : Below w.heap.size w W1 := by rw [hW1]; exact below_new w _
  have hb2 : Below W1.heap.size W1 W := by rw [hW]; exact below_new W1 _
  have hbw := hb1.trans (hb2.mono hb1.size)
  have hs1 : W1.heap.size = w.heap.size + 1 := by rw [hW1]; simp
  have HB := hideIt hbw
  have HBC := hideIt (show BC W w.heap.size x A c by
    have : BC W1 w.heap.size x A c := by rw [hW1]; exact BC.new c hx
    exact this.keep hb2)
  have HPL := hideIt (show Blk W (w.heap.size + 1) 30 [.int .i64 pu, .slice B ts.length cb] by
    rw [← hs1, hW]; exact Blk.new W1 30 [.int .i64 pu, .slice B ts.length cb])
  have HSB := hideIt ((hB.below hbw).wide hbw.size)
  have HSD := hideIt ((hD.below hbw).wide hbw.size)
  have HV := hideIt (rwidth_any x A c W HBC.out.cin hsm)
  have HWE1 := hideIt hW1
  have HWE := hideIt hW
  have HBG := hideIt hbig
  clear hb1 hb2 hbw hs1 hx hB hD hW hW1 hbig
  obtain ⟨z, hz⟩ : ∃ z, z = wC x := ⟨_, rfl⟩
  have HR := hideIt (show aplR x pu ts us = if ¬ z = 0 ∧ (us.length : Int) = z ∧ 0 ≤ pu ∧ pu < z ∧ ¬ ts.length = 0 ∧ ts.all (inZ us.length) = true then (cbS x.field (cfz ts) (smz ts us), cbE x.field (cfz ts) (smz ts us)) else ([], 1) by rw [hz]; rfl)
  rw [← hz] at HV
  clear hz
  have hq0 := i_eql 3 .i64 z 0
  have hq1 := i_neq 3 .i64 (us.length : Int) z
  have hq2 := i_eql 3 .i64 (ts.length : Int) 0
  by_cases hok : ¬ z = 0 ∧ (us.length : Int) = z ∧ 0 ≤ pu ∧ pu < z ∧ ¬ ts.length = 0
  · obtain ⟨h1, h2, h3, h4, h5⟩ := hok
    rw [decide_eq_false h1] at hq0
    rw [decide_eq_false (fun h => h h2)] at hq1
    rw [decide_eq_false (by omega)] at hq2
    have h6 : ¬ pu < 0 := by omega
    have h7 : ¬ pu ≥ z := by omega
    have HZ := hideIt h2
    have HR2 := hideIt (show aplR x pu ts us = if ts.all (inZ us.length) = true then (cbS x.field (cfz ts) (smz ts us), cbE x.field (cfz ts) (smz ts us)) else ([], 1) by
      rw [HR.out]
      by_cases ha : ts.all (inZ us.length) = true
      · rw [if_pos ⟨h1, h2, h3, h4, h5, ha⟩, if_pos ha]
      · rw [if_neg (fun h => ha h.2.2.2.2.2), if_neg ha])
    clear h1 h2 h3 h4 h5 HR
    obtain ⟨R, hR⟩ : ∃ R, R = aplR x pu ts us := ⟨_, rfl⟩
    rw [← hR] at HR2 ⊢
    clear hR
    go_enter Tryd.func24, Tryd.ntmps24
    go_wp2_with (first
      | ((with_reducible refine at_load ?_); refine wpList_ldC (by kernel_rfl) (.tmp 3) rfl (p := w.heap.size) (c := c) rfl (by rw [← HWE1.out, ← HWE.out]; exact HBC.out.box) ?_)
      | (go_at_call 27; rw [← HWE1.out, ← HWE.out]; refine HV.out.mono ?_; rintro e w1 ⟨rfl, hb1⟩; have HB1 := hideIt hb1; have p0 := (HPL.out.kept hb1 HPL.out.lt).cell 0; have p1 := (HPL.out.kept hb1 HPL.out.lt).cell 1; clear hb1 HV))
    clear p0 p1
    go_loopg [9, 10, 11] ts.length (fun gk s9 s10 s11 wr => ∃ k : Nat, k + gk = ts.length ∧ s11 = .int .i64 (k : Int) ∧ Aside (Below W.heap.size W wr) ∧ Aside (wr.ownsRow W.heap.size 3 1 s9 k ((cfz (ts.take k)).map iv)) ∧ Aside (wr.ownsRow W.heap.size 9 1 s10 k ((smz (ts.take k) us).map sv)) ∧ Aside ((ts.take k).all (inZ us.length) = true))
    case atStart => exact ⟨0, by omega, rfl, HB1.out, World.ownsRow_nil _ _ _ _, World.ownsRow_nil _ _ _ _, by simp [Aside]⟩
    case round =>
      obtain ⟨k, hk, rfl, HLW, HO7, HO8, HIZ⟩ := hrel
      obtain ⟨w5, rfl⟩ : ∃ x, x = wr := ⟨wr, rfl⟩
      obtain ⟨A7, c7, e7, _, _⟩ := own_form HO7.out
      obtain ⟨A8, c8, e8, _, _⟩ := own_form HO8.out
      subst e7 e8
      have p1 : w5.cell? ⟨w.heap.size + 1, 1, none⟩ = some (.slice B ts.length cb) := (HPL.out.kept HLW.out HPL.out.lt).cell 1
      by_cases hlt : k < ts.length
      · obtain ⟨b, o, hBe, hb, hrg⟩ := (HSB.out.below HLW.out).zr hlt
        have hinc := inc_c 3 k (by omega)
        have hki : (k : Int) < (ts.length : Int) := by omega
        have HTK := hideIt (take_snoc ts k hlt)
        have HAT := hideIt (fun h => all_at (p := inZ us.length) hlt h)
        have HRG := hideIt hrg
        subst hBe
        generalize ts[k] = t at *
        clear hb hrg
        obtain ⟨tu, tc0⟩ := t
        by_cases h8 : tu < 0
        · have HE := hideIt (HR2.out.trans (if_neg (by rw [HAT.out (by unfold inZ; exact decide_eq_false (fun h => by have := h.1; omega))]; decide)))
          clear HTK HAT
          go_wp2_with (first
            | ((with_reducible refine at_load ?_); refine wpList_ldT (by kernel_rfl) (.tmp 50) rfl (t := (tu, tc0)) rfl HRG.out ?_)
            | ((with_reducible refine at_store ?_); refine wpList_put rfl _ (.tmp 12) (.tmp 51) rfl w5.heap.size (zc (tu, tc0)) [.int .i64 0, .int .i64 0] 54 rfl rfl (Blk.new w5 54 [.int .i64 0, .int .i64 0]) isz2 rfl (by simp [Value.oneCell']) ?_; intro w8 ht8 hb8; have HL8 := hideIt (ht8.below (HLW.out.trans ((below_new w5 (.cells #[.int .i64 0, .int .i64 0] 54)).mono HLW.out.size)) HLW.out.size); have c0 := hb8.cell 0; clear ht8 hb8))
          go_ret2
          exact ⟨by rw [HE.out]; rfl, HB.out.trans (HL8.out.mono HB.out.size)⟩
        · by_cases h9 : tu ≥ z
          · have HE := hideIt (HR2.out.trans (if_neg (by rw [HAT.out (by unfold inZ; exact decide_eq_false (fun h => by have := h.2; have := HZ.out; omega))]; decide)))
            clear HTK HAT
            go_wp2_with (first
              | ((with_reducible refine at_load ?_); refine wpList_ldT (by kernel_rfl) (.tmp 50) rfl (t := (tu, tc0)) rfl HRG.out ?_)
              | ((with_reducible refine at_store ?_); refine wpList_put rfl _ (.tmp 12) (.tmp 51) rfl w5.heap.size (zc (tu, tc0)) [.int .i64 0, .int .i64 0] 54 rfl rfl (Blk.new w5 54 [.int .i64 0, .int .i64 0]) isz2 rfl (by simp [Value.oneCell']) ?_; intro w8 ht8 hb8; have HL8 := hideIt (ht8.below (HLW.out.trans ((below_new w5 (.cells #[.int .i64 0, .int .i64 0] 54)).mono HLW.out.size)) HLW.out.size); have c0 := hb8.cell 0; clear ht8 hb8))
            go_ret2
            exact ⟨by rw [HE.out]; rfl, HB.out.trans (HL8.out.mono HB.out.size)⟩
          · obtain ⟨tn, rfl⟩ : ∃ n : Nat, tu = (n : Int) := ⟨tu.toNat, by omega⟩
            have htn : tn < us.length := by have := HZ.out; omega
            obtain ⟨b2, o2, hDe, hb2, hcs⟩ := (HSD.out.below HLW.out).strs (by omega)
            have hcs1 := hcs tn htn
            have htl : (tn : Int) < (us.length : Int) := by omega
            have HN1 := hideIt (show (cfz (ts.take (k + 1))).map iv = (cfz (ts.take k) ++ [tc0]).map iv by rw [HTK.out]; simp [cfz])
            have HN2 := hideIt (show (smz (ts.take (k + 1)) us).map sv = (smz (ts.take k) us ++ [us[tn]]).map sv by
              rw [HTK.out]
              have : us.getD tn [] = us[tn] := by simp [List.getD_eq_getElem?_getD, htn]
              simp only [smz, List.map_append, List.map_cons, List.map_nil, Int.toNat_natCast, this])
            have HN3 := hideIt (show (ts.take (k + 1)).all (inZ us.length) = true by
              rw [HTK.out, List.all_append, HIZ.out]
              simp only [List.all_cons, List.all_nil, Bool.and_true, Bool.true_and]
              exact decide_eq_true ⟨by omega, by omega⟩)
            generalize us[tn] = s0 at *
            subst hDe
            have HCS := hideIt (fun (W2 : World) (h : Below W.heap.size w5 W2) => (h.cell (p := ⟨b2, o2 + tn, none⟩) hb2).trans hcs1)
            clear hcs hb2 hcs1 HTK HAT htn
            go_wp2_with (first
              | ((with_reducible refine at_load ?_); refine wpList_ldT (by kernel_rfl) (.tmp 50) rfl (t := ((tn : Int), tc0)) rfl HRG.out ?_)
              | ((with_reducible refine at_store ?_); refine wpList_put rfl _ (.tmp 12) (.tmp 51) rfl w5.heap.size (zc ((tn : Int), tc0)) [.int .i64 0, .int .i64 0] 54 rfl rfl (Blk.new w5 54 [.int .i64 0, .int .i64 0]) isz2 rfl (by simp [Value.oneCell']) ?_; intro w8 ht8 hb8; have HL8 := hideIt (ht8.below (HLW.out.trans ((below_new w5 (.cells #[.int .i64 0, .int .i64 0] 54)).mono HLW.out.size)) HLW.out.size); have c0 := hb8.cell 0; have c1 := hb8.cell 1; have HB8 := hideIt hb8; have HL58 := hideIt (show Below W.heap.size w5 w8 from ht8.below ((below_new w5 (.cells #[.int .i64 0, .int .i64 0] 54)).mono HLW.out.size) HLW.out.size); have hl5 : Below w5.heap.size w5 w8 := ht8.below (below_new w5 (.cells #[.int .i64 0, .int .i64 0] 54)) (Nat.le_refl _); have H78 := hideIt (own_kept HO7.out hl5); have H88 := hideIt (own_kept HO8.out hl5); clear ht8 hb8 hl5)
              | ((with_reducible refine at_append ?_); refine wpList_apI (y := tc0) (n := k) rfl (.tmp 61) (.tmp 64) rfl rfl H78.out rfl (by omega) HL8.out.size ?_; intro v6 w6 HO6 HG6 HA6 HB6; have HP6 := hideIt (own_beside H88.out H78.out (by decide) HG6.out); have d0 := (blk_beside HB8.out H78.out (by decide) HG6.out).cell 0; have HL6 := hideIt (HL8.out.trans HB6.out); have g1 := HCS.out _ (HL58.out.trans HB6.out); clear c0 c1)
              | ((with_reducible refine at_append ?_); refine wpList_apS (u := s0) (n := k) rfl (.tmp 66) (.tmp 72) rfl rfl HP6.out rfl (by omega) HL6.out.size ?_; intro v7 w7 HO9 HG9 HA9 HB9))
            go_roundg (gk - 1)
            case measure => omega
            case rel => exact ⟨k + 1, by omega, by go_num, HL6.out.trans HB9.out, by rw [HN1.out]; exact own_beside HO6.out HP6.out (by decide) HG9.out, by rw [HN2.out]; exact HO9.out, HN3.out⟩
      · have hki : ¬ (k : Int) < (ts.length : Int) := by omega
        obtain rfl : k = ts.length := by omega
        have hia := HIZ.out
        have ho7 := Sl.of_own HO7.out
        have ho8 := Sl.of_own HO8.out
        rw [List.take_length] at ho7 ho8 hia
        have HE := hideIt (HR2.out.trans (if_pos hia))
        have c1 := (HBC.out.keep HLW.out).c1
        have HMS := hideIt (show ∀ v ∈ smz ts us, v.length ≤ 100000 from fun v hv => by
          obtain ⟨t, ht, rfl⟩ := List.mem_map.1 hv
          have h := of_decide_eq_true (List.all_eq_true.1 hia t ht)
          have h2 : t.1.toNat < us.length := by omega
          rw [show us.getD t.1.toNat [] = us[t.1.toNat] by simp [List.getD_eq_getElem?_getD, h2]]
          exact HBG.out _ (List.getElem_mem _))
        have hcm := rcombine_any x.field A7 c7 (cfz ts) A8 c8 (smz ts us) w5 (by rw [List.length_map]; omega) HMS.out (by rw [List.length_map]; exact ho7) (by rw [List.length_map]; exact ho8)
        rw [List.length_map, List.length_map] at hcm
        have HCM := hideIt hcm
        clear ho7 ho8 hcm hia
        generalize cbS x.field (cfz ts) (smz ts us) = rs at *
        generalize cbE x.field (cfz ts) (smz ts us) = re at *
        go_wp2_with (first
          | (go_at_call 51; refine HCM.out.mono ?_; rintro e w6 ⟨rfl, hb6⟩; have HB6 := hideIt hb6; clear hb6 HCM))
        go_ret2
        exact ⟨by rw [HE.out]; rfl, HB.out.trans ((HLW.out.trans (HB6.out.mono HLW.out.size)).mono HB.out.size)⟩
  · have HE := hideIt (HR.out.trans (if_neg (fun h => hok ⟨h.1, h.2.1, h.2.2.1, h.2.2.2.1, h.2.2.2.2.1⟩)))
    obtain ⟨R, hR⟩ : ∃ R, R = aplR x pu ts us := ⟨_, rfl⟩
    rw [← hR] at HE ⊢
    clear hR HR
    have hcase : (decide (z = 0) = true) ∨ (decide (z = 0) = false ∧ decide ((us.length : Int) ≠ z) = true) ∨ (decide (z = 0) = false ∧ decide ((us.length : Int) ≠ z) = false ∧ pu < 0) ∨ (decide (z = 0) = false ∧ decide ((us.length : Int) ≠ z) = false ∧ ¬ pu < 0 ∧ pu ≥ z) ∨ (decide (z = 0) = false ∧ decide ((us.length : Int) ≠ z) = false ∧ ¬ pu < 0 ∧ ¬ pu ≥ z ∧ decide ((ts.length : Int) = 0) = true) := by
      by_cases h1 : z = 0
      · exact .inl (decide_eq_true h1)
      · by_cases h2 : (us.length : Int) = z
        · by_cases h3 : pu < 0
          · exact .inr (.inr (.inl ⟨decide_eq_false h1, decide_eq_false (fun h => h h2), h3⟩))
          · by_cases h4 : pu ≥ z
            · exact .inr (.inr (.inr (.inl ⟨decide_eq_false h1, decide_eq_false (fun h => h h2), h3, h4⟩)))
            · exact .inr (.inr (.inr (.inr ⟨decide_eq_false h1, decide_eq_false (fun h => h h2), h3, h4, decide_eq_true (by
                by_cases h5 : ts.length = 0
                · omega
                · exact absurd ⟨h1, h2, by omega, by omega, h5⟩ hok)⟩)))
        · exact .inr (.inl ⟨decide_eq_false h1, decide_eq_true h2⟩)
    clear hok
    rcases hcase with h1 | ⟨h1, h2⟩ | ⟨h1, h2, h3⟩ | ⟨h1, h2, h3, h4⟩ | ⟨h1, h2, h3, h4, h5⟩
    all_goals
      try rw [h1] at hq0
      try rw [h2] at hq1
      try rw [h5] at hq2
      try clear h1
      try clear h2
      try clear h5
      go_enter Tryd.func24, Tryd.ntmps24
      go_wp2_with (first
        | ((with_reducible refine at_load ?_); refine wpList_ldC (by kernel_rfl) (.tmp 3) rfl (p := w.heap.size) (c := c) rfl (by rw [← HWE1.out, ← HWE.out]; exact HBC.out.box) ?_)
        | (go_at_call 27; rw [← HWE1.out, ← HWE.out]; refine HV.out.mono ?_; rintro e w1 ⟨rfl, hb1⟩; have HB1 := hideIt hb1; have p0 := (HPL.out.kept hb1 HPL.out.lt).cell 0; have p1 := (HPL.out.kept hb1 HPL.out.lt).cell 1; clear hb1 HV))
      go_ret2
      exact ⟨by rw [HE.out]; rfl, HB.out.trans (HB1.out.mono HB.out.size)⟩
end Go.Proofs.YtklngodlijiccaaDoor
