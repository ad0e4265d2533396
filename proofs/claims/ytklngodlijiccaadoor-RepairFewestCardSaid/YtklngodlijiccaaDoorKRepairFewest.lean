/-
  The walk of the law: No basis and no check gives a plan of fewer terms, and a plan is had if the unit can be had.
-/
import Derived.Test.YtklngodlijiccaaDoorRepC5
namespace Go.Proofs.YtklngodlijiccaaDoor.repairFewest
open Go.RowKit
set_option linter.unusedVariables false


set_option maxHeartbeats 3200000 in
set_option maxRecDepth 100000 in
theorem walk (a0 : Cd) (A0 : Option Addr) (c0 : Nat) (l1 : List Bool) (A1 : Option Addr) (c1 : Nat) (a2 : Int) (w : World) (x0 : CIn w a0 A0) (x1 : Sl w w.heap.size A1 1 l1.length (l1.map bl)) (m1 : l1.length ≤ 140737488351232) (w2 : -9223372036854775808 ≤ a2 ∧ a2 ≤ 9223372036854775807) (T1 : Tabs w) :
    Calls Tryd.prog 8 #[a0.v A0 c0, .slice A1 l1.length c1, .int .i64 a2] w fun e w' => e = .returned (.bool true) ∧ Below w.heap.size w w' := by
  obtain ⟨W0, hW0⟩ : ∃ W, W = w.alloc (.cells (a0.cs A0 c0).toArray 24) := ⟨_, rfl⟩
  have hb0 : Below w.heap.size w W0 := by rw [hW0]; exact below_new w _
  have HB0 := hideIt hb0
  have HBC := hideIt (show BC W0 w.heap.size a0 A0 c0 by rw [hW0]; exact BC.new c0 x0)
  have HT := hideIt (T1.keep hb0)
  have HX := hideIt ((x1.below hb0).wide hb0.size)
  have HWE := hideIt hW0
  have HSA := hideIt (fun (W : World) (h : Below W0.heap.size W0 W) => sanity_any W (HT.out.keep h))
  have HSM := hideIt (small_any a0 A0 c0 W0 HBC.out.cin)
  have hnot := not_b
  have HM := hideIt m1
  clear hW0 hb0 x0 x1 T1 m1
  by_cases hsm : smB a0 = true
  · rw [hsm] at HSM
    have hS := smB_sm hsm
    have HVL := hideIt (fun (W : World) (h : Below W0.heap.size W0 W) => rvalid8_any a0 A0 c0 W (HBC.out.keep h).cin hS)
    have HWI := hideIt (fun (W : World) (h : Below W0.heap.size W0 W) => rwidth_any a0 A0 c0 W (HBC.out.keep h).cin hS)
    by_cases hv : vC a0 = true
    · rw [hv] at HVL
      by_cases hwd : (l1.length : Int) = wC a0
      · have hg0 : binOp .neq 3 (.int .i64 (l1.length : Int)) (.int .i64 (wC a0)) = pure (.bool false) := by rw [i_neq]; simp [hwd]
        by_cases hu0 : a2 < 0
        · have hg1 : binOp .lss 3 (.int .i64 a2) (.int .i64 0) = pure (.bool true) := by rw [binOp_lss, decide_eq_true hu0]
          clear hsm hS hv hwd hu0
          generalize wC a0 = wz at *
          go_enter Tryd.func8, Tryd.ntmps8
          go_wp2_with (first | (go_at_call 10; rw [← HWE.out]; refine HSM.out.mono ?_; rintro e w1 ⟨rfl, hb⟩; have G1 := hideIt hb; clear hb HSM) | ((with_reducible refine at_load ?_); refine wpList_ldC (by kernel_rfl) (.tmp 3) rfl (p := w.heap.size) (c := c0) rfl (by rw [← HWE.out]; exact HBC.out.box) ?_) | ((with_reducible refine at_load ?_); refine wpList_ldC (by kernel_rfl) (.tmp 3) rfl (p := w.heap.size) (c := c0) rfl (HBC.out.keep G1.out).box ?_) | (go_at_call 26; refine (HVL.out _ G1.out).mono ?_; rintro e wv ⟨rfl, hb⟩; have GV := hideIt (G1.out.trans (hb.mono G1.out.size)); clear hb HVL) | ((with_reducible refine at_load ?_); refine wpList_ldC (by kernel_rfl) (.tmp 3) rfl (p := w.heap.size) (c := c0) rfl (HBC.out.keep GV.out).box ?_) | (go_at_call 27; refine (HWI.out _ GV.out).mono ?_; rintro e ww ⟨rfl, hb⟩; have GW := hideIt (GV.out.trans (hb.mono GV.out.size)); clear hb HWI) | (go_at_call 11; refine (HSA.out _ GW.out).mono ?_; rintro e w2 ⟨rfl, hb⟩; have G2 := hideIt ((GW.out).trans (hb.mono (GW.out).size)); clear hb HSA))
          go_ret
          exact ⟨rfl, HB0.out.trans (G2.out.mono HB0.out.size)⟩
        · have hg1 : binOp .lss 3 (.int .i64 a2) (.int .i64 0) = pure (.bool false) := by rw [binOp_lss, decide_eq_false hu0]
          by_cases hle : (l1.length : Int) ≤ a2
          · have hg2 : binOp .geq 3 (.int .i64 a2) (.int .i64 (l1.length : Int)) = pure (.bool true) := by rw [binOp_geq, decide_eq_true hle]
            clear hsm hS hv hwd hu0 hle
            generalize wC a0 = wz at *
            go_enter Tryd.func8, Tryd.ntmps8
            go_wp2_with (first | (go_at_call 10; rw [← HWE.out]; refine HSM.out.mono ?_; rintro e w1 ⟨rfl, hb⟩; have G1 := hideIt hb; clear hb HSM) | ((with_reducible refine at_load ?_); refine wpList_ldC (by kernel_rfl) (.tmp 3) rfl (p := w.heap.size) (c := c0) rfl (by rw [← HWE.out]; exact HBC.out.box) ?_) | ((with_reducible refine at_load ?_); refine wpList_ldC (by kernel_rfl) (.tmp 3) rfl (p := w.heap.size) (c := c0) rfl (HBC.out.keep G1.out).box ?_) | (go_at_call 26; refine (HVL.out _ G1.out).mono ?_; rintro e wv ⟨rfl, hb⟩; have GV := hideIt (G1.out.trans (hb.mono G1.out.size)); clear hb HVL) | ((with_reducible refine at_load ?_); refine wpList_ldC (by kernel_rfl) (.tmp 3) rfl (p := w.heap.size) (c := c0) rfl (HBC.out.keep GV.out).box ?_) | (go_at_call 27; refine (HWI.out _ GV.out).mono ?_; rintro e ww ⟨rfl, hb⟩; have GW := hideIt (GV.out.trans (hb.mono GV.out.size)); clear hb HWI) | (go_at_call 11; refine (HSA.out _ GW.out).mono ?_; rintro e w2 ⟨rfl, hb⟩; have G2 := hideIt ((GW.out).trans (hb.mono (GW.out).size)); clear hb HSA))
            go_ret
            exact ⟨rfl, HB0.out.trans (G2.out.mono HB0.out.size)⟩
          · have hg2 : binOp .geq 3 (.int .i64 a2) (.int .i64 (l1.length : Int)) = pure (.bool false) := by rw [binOp_geq, decide_eq_false hle]
            obtain ⟨k, hk0⟩ : ∃ k : Nat, a2 = (k : Int) := ⟨a2.toNat, by omega⟩
            subst hk0
            have hk : k < l1.length := by omega
            have hki : (k : Int) < (l1.length : Int) := by omega
            have hN0 : 0 < l1.length := by omega
            obtain ⟨mm, nn, hvc⟩ := vC_spec hv
            have hl : l1.length = nn + a0.par.length := by
              unfold wC at hwd
              rw [if_pos hv, hvc.d] at hwd
              omega
            have hok : okB a0 l1 = true := by
              unfold okB
              rw [hv, Bool.true_and, hvc.d]
              exact decide_eq_true (by omega)
            have hix : idxB l1 (k : Int) = true := decide_eq_true ⟨by omega, hki⟩
            have hN32 : l1.length ≤ 32 := by have := hvc.wid; omega
            have HPA := hideIt (fun (W : World) (h : Below W0.heap.size W0 W) => plan_any a0 A0 c0 W (HT.out.keep h) (HBC.out.keep h).cin l1 A1 c1 ((HX.out.below h).wide h.size) (k : Int))
            have HRC := hideIt (fun (W : World) (h : Below W0.heap.size W0 W) (D : Option Addr) (cd : Nat) (hD : Sl W W.heap.size D 1 l1.length ((ot l1 k).map bl)) => by
              have := rrecoverable_any a0 A0 c0 W (HBC.out.keep h).cin hS (ot l1 k) D cd (by rw [ot_len]; exact hD) (k : Int)
              rwa [ot_len] at this)
            have HCB := hideIt (fun (W : World) (h : Below W0.heap.size W0 W) (D : Option Addr) (cd : Nat) (hD : Sl W W.heap.size D 1 l1.length ((ot l1 k).map bl)) => by
              have := rcomb_any a0 A0 c0 W (HBC.out.keep h).cin hS (ot l1 k) D cd (by rw [ot_len]; exact hD) (k : Int)
              rwa [ot_len] at this)
            have HCK := hideIt (fun (W : World) (h : Below W0.heap.size W0 W) => rchecks_nm a0 A0 c0 W (HBC.out.keep h).cin hS (k : Int))
            have hrec := few_rec hvc hl hok hk
            obtain ⟨b1, o1, hA1, hbb1, hcc1⟩ := HX.out.2 (by rw [List.length_map]; exact hN0)
            have HC1 := hideIt (fun (W : World) (h : Below W0.heap.size W0 W) j u (hu : (l1.map bl)[j]? = some u) => show W.cell? ((⟨b1, o1, none⟩ : Addr).add j) = some u by rw [addr_add, h.cell (p := ⟨b1, o1 + j, none⟩) hbb1]; exact hcc1 j u hu)
            have HLS := hideIt (show (l1.map bl).set k (.bool false) = (ot l1 k).map bl by unfold ot; rw [List.map_set])
            subst hA1
            clear hbb1 hcc1 hu0 hle hS
            cases hbk : besK a0 l1 k a0.par.length with
            | none =>
              have hpl : planR a0 l1 (k : Int) = ((0, []), 11) := by
                unfold planR
                rw [if_pos ⟨hok, hix⟩, Int.toNat_natCast, hbk]
              have hr0 : decide ((combR a0 (ot l1 k) (k : Int)).2 = 0) = false := decide_eq_false fun h0 => by
                have := hrec.2 h0
                rw [hbk] at this
                cases this
              have HPA := hideIt (fun (W : World) (h : Below W0.heap.size W0 W) => show Calls Tryd.prog 12 #[a0.v A0 c0, .slice (some ⟨b1, o1, none⟩) l1.length c1, .int .i64 (k : Int)] W (PlRes W ((0, []), 11)) by rw [← hpl]; exact HPA.out W h)
              have HRC := hideIt (fun (W : World) (h : Below W0.heap.size W0 W) (D : Option Addr) (cd : Nat) (hD : Sl W W.heap.size D 1 l1.length ((ot l1 k).map bl)) => by
                have := HRC.out W h D cd hD
                rwa [hr0] at this)
              have he1 : binOp .eql 31 (.int .i64 11) (.int .i64 0) = pure (.bool false) := by rw [i_eql]; rfl
              have he2 : binOp .neq 31 (.int .i64 11) (.int .i64 0) = pure (.bool true) := by rw [i_neq]; rfl
              have he3 : binOp .eql 31 (.int .i64 11) (.int .i64 11) = pure (.bool true) := by rw [i_eql]; rfl
              clear hpl hr0 hbk hrec hok hix hl hv hwd hsm hvc HCB HCK
              generalize wC a0 = wz at *
              go_enter Tryd.func8, Tryd.ntmps8
              go_wp2_with (first
                | (go_at_call 10; rw [← HWE.out]; refine HSM.out.mono ?_; rintro e w1 ⟨rfl, hb⟩; have G1 := hideIt hb; clear hb HSM) | ((with_reducible refine at_load ?_); refine wpList_ldC (by kernel_rfl) (.tmp 3) rfl (p := w.heap.size) (c := c0) rfl (by rw [← HWE.out]; exact HBC.out.box) ?_) | ((with_reducible refine at_load ?_); refine wpList_ldC (by kernel_rfl) (.tmp 3) rfl (p := w.heap.size) (c := c0) rfl (HBC.out.keep G1.out).box ?_) | (go_at_call 26; refine (HVL.out _ G1.out).mono ?_; rintro e wv ⟨rfl, hb⟩; have GV := hideIt (G1.out.trans (hb.mono G1.out.size)); clear hb HVL) | ((with_reducible refine at_load ?_); refine wpList_ldC (by kernel_rfl) (.tmp 3) rfl (p := w.heap.size) (c := c0) rfl (HBC.out.keep GV.out).box ?_) | (go_at_call 27; refine (HWI.out _ GV.out).mono ?_; rintro e ww ⟨rfl, hb⟩; have GW := hideIt (GV.out.trans (hb.mono GV.out.size)); clear hb HWI)
                | ((with_reducible refine at_append ?_); refine wpList_apH (base := ww.heap.size) (z := .bool false) (size := 1) (n := 0) (m := l1.length) (news := l1.map bl) Tryd.underlying25 (by kernel_rfl) rfl (by decide) rfl (.tmp 43) (.tmp 44) rfl rfl (World.ownsRow_lit (base := ww.heap.size) (e := 4) (size := 1) ww #[] 0 (Nat.le_refl _) (by decide) rfl) rfl (by simp) (fun j u hu => HC1.out _ (GW.out.trans ((below_new ww (.cells #[] 4)).mono GW.out.size)) j u hu) (fun u hu => by obtain ⟨y, _, rfl⟩ := List.mem_map.1 hu; rfl) (by have := HM.out; omega) (by simp) ?_; intro v5 w5 HO5 HG5 HA5 HB5; rw [Nat.zero_add] at HO5; have ho5 : w5.ownsRow ww.heap.size 4 1 v5 l1.length (l1.map bl) := HO5.out; obtain ⟨g, cap, cur, rfl, hg1, hg2, hg3, hg4⟩ := own_cur ho5 hN0;  have hfr := hg2.free k; have hce : w5.cell? ⟨g, k, none⟩ = some (.bool l1[k]) := (hg2.cell k).trans (hg3 k _ (by rw [List.getElem?_map, List.getElem?_eq_getElem hk]; rfl)); have hbS := (below_set ((below_new ww (.cells #[] 4)).trans HB5.out) hg1 k (.bool false)); have HBS := hideIt (GW.out.trans (hbS.mono GW.out.size)); have hxs := sl_set (k := k) (u := .bool false) hg2 hg3 hg4; rw [HLS.out] at hxs; have HXS := hideIt hxs; clear hg1 hg2 hg3 hg4 HO5 HA5 hxs ho5 hbS)
                | ((with_reducible refine at_load ?_); refine wpList_ldC (by kernel_rfl) (.tmp 3) rfl (p := w.heap.size) (c := c0) rfl (HBC.out.keep HBS.out).box ?_)
                | (go_at_call 12; refine (HPA.out _ HBS.out).mono ?_; rintro e w6 ⟨F6, c6, rfl, _, _, hb⟩; have G6 := hideIt (HBS.out.trans (hb.mono HBS.out.size)); have HX6 := hideIt ((HXS.out.below hb).wide hb.size); clear hb HPA)
                | ((with_reducible refine at_store ?_); refine wpList_put rfl _ (.tmp 8) (.tmp 54) rfl w6.heap.size [.int .i64 0, .slice F6 0 c6] [.int .i64 0, .slice none 0 0] 30 rfl rfl (Blk.new w6 30 [.int .i64 0, .slice none 0 0]) iszP rfl (by simp [Value.oneCell']) ?_; intro w7 ht hb; have hbl := ht.below (below_new w6 (.cells #[.int .i64 0, .slice none 0 0] 30)) (Nat.le_refl _); have G7 := hideIt (G6.out.trans (hbl.mono G6.out.size)); have HX7 := hideIt ((HX6.out.below hbl).wide hbl.size); clear ht hb hbl)
                | ((with_reducible refine at_load ?_); refine wpList_ldC (by kernel_rfl) (.tmp 3) rfl (p := w.heap.size) (c := c0) rfl (HBC.out.keep G7.out).box ?_)
                | (go_at_call 28; refine (HRC.out _ G7.out _ _ HX7.out).mono ?_; rintro e w8 ⟨rfl, hb⟩; have G8 := hideIt (G7.out.trans (hb.mono G7.out.size)); clear hb HRC)
                | (go_at_call 11; refine (HSA.out _ G8.out).mono ?_; rintro e w2 ⟨rfl, hb⟩; have G2 := hideIt ((G8.out).trans (hb.mono (G8.out).size)); clear hb HSA))
              go_ret
              exact ⟨rfl, HB0.out.trans (G2.out.mono HB0.out.size)⟩
            | some L =>
              have hpl : planR a0 l1 (k : Int) = (((k : Int), L), 0) := by
                unfold planR
                rw [if_pos ⟨hok, hix⟩, Int.toNat_natCast, hbk]
              have hr2 : (combR a0 (ot l1 k) (k : Int)).2 = 0 := hrec.1 (by rw [hbk]; rfl)
              have hr0 : decide ((combR a0 (ot l1 k) (k : Int)).2 = 0) = true := decide_eq_true hr2
              have hbs := few_base hbk hr2
              have hch := few_chk hvc hl hbk
              have hcs := chksR_short hvc (k : Int)
              have hL32 : L.length ≤ 32 := by have := (besK_good hvc hl hok hk _ (Nat.le_refl _) L hbk).len; omega
              have HPA := hideIt (fun (W : World) (h : Below W0.heap.size W0 W) => show Calls Tryd.prog 12 #[a0.v A0 c0, .slice (some ⟨b1, o1, none⟩) l1.length c1, .int .i64 (k : Int)] W (PlRes W (((k : Int), L), 0)) by rw [← hpl]; exact HPA.out W h)
              have HRC := hideIt (fun (W : World) (h : Below W0.heap.size W0 W) (D : Option Addr) (cd : Nat) (hD : Sl W W.heap.size D 1 l1.length ((ot l1 k).map bl)) => by
                have := HRC.out W h D cd hD
                rwa [hr0] at this)
              obtain ⟨B, er, hce⟩ : ∃ B er, combR a0 (ot l1 k) (k : Int) = (B, er) := ⟨_, _, rfl⟩
              rw [hce] at HCB hbs
              obtain ⟨ps, hps⟩ : ∃ ps, ps = chksR a0 (k : Int) := ⟨_, rfl⟩
              rw [← hps] at HCK hch hcs
              have HCH := hideIt hch
              have he1 : binOp .eql 31 (.int .i64 0) (.int .i64 0) = pure (.bool true) := by rw [i_eql]; rfl
              have he2 : binOp .neq 31 (.int .i64 0) (.int .i64 0) = pure (.bool false) := by rw [i_neq]; rfl
              have he3 : binOp .gtr 3 (.int .i64 (L.length : Int)) (.int .i64 (B.length : Int)) = pure (.bool false) := by rw [binOp_gtr, decide_eq_false (by have : L.length ≤ B.length := hbs; omega)]
              clear hpl hr0 hr2 hbk hrec hok hix hl hv hwd hsm hvc hbs hch hce hps
              generalize wC a0 = wz at *
              go_enter Tryd.func8, Tryd.ntmps8
              go_wp2_with (first
                | (go_at_call 10; rw [← HWE.out]; refine HSM.out.mono ?_; rintro e w1 ⟨rfl, hb⟩; have G1 := hideIt hb; clear hb HSM) | ((with_reducible refine at_load ?_); refine wpList_ldC (by kernel_rfl) (.tmp 3) rfl (p := w.heap.size) (c := c0) rfl (by rw [← HWE.out]; exact HBC.out.box) ?_) | ((with_reducible refine at_load ?_); refine wpList_ldC (by kernel_rfl) (.tmp 3) rfl (p := w.heap.size) (c := c0) rfl (HBC.out.keep G1.out).box ?_) | (go_at_call 26; refine (HVL.out _ G1.out).mono ?_; rintro e wv ⟨rfl, hb⟩; have GV := hideIt (G1.out.trans (hb.mono G1.out.size)); clear hb HVL) | ((with_reducible refine at_load ?_); refine wpList_ldC (by kernel_rfl) (.tmp 3) rfl (p := w.heap.size) (c := c0) rfl (HBC.out.keep GV.out).box ?_) | (go_at_call 27; refine (HWI.out _ GV.out).mono ?_; rintro e ww ⟨rfl, hb⟩; have GW := hideIt (GV.out.trans (hb.mono GV.out.size)); clear hb HWI)
                | ((with_reducible refine at_append ?_); refine wpList_apH (base := ww.heap.size) (z := .bool false) (size := 1) (n := 0) (m := l1.length) (news := l1.map bl) Tryd.underlying25 (by kernel_rfl) rfl (by decide) rfl (.tmp 43) (.tmp 44) rfl rfl (World.ownsRow_lit (base := ww.heap.size) (e := 4) (size := 1) ww #[] 0 (Nat.le_refl _) (by decide) rfl) rfl (by simp) (fun j u hu => HC1.out _ (GW.out.trans ((below_new ww (.cells #[] 4)).mono GW.out.size)) j u hu) (fun u hu => by obtain ⟨y, _, rfl⟩ := List.mem_map.1 hu; rfl) (by have := HM.out; omega) (by simp) ?_; intro v5 w5 HO5 HG5 HA5 HB5; rw [Nat.zero_add] at HO5; have ho5 : w5.ownsRow ww.heap.size 4 1 v5 l1.length (l1.map bl) := HO5.out; obtain ⟨g, cap, cur, rfl, hg1, hg2, hg3, hg4⟩ := own_cur ho5 hN0;  have hfr := hg2.free k; have hce : w5.cell? ⟨g, k, none⟩ = some (.bool l1[k]) := (hg2.cell k).trans (hg3 k _ (by rw [List.getElem?_map, List.getElem?_eq_getElem hk]; rfl)); have hbS := (below_set ((below_new ww (.cells #[] 4)).trans HB5.out) hg1 k (.bool false)); have HBS := hideIt (GW.out.trans (hbS.mono GW.out.size)); have hxs := sl_set (k := k) (u := .bool false) hg2 hg3 hg4; rw [HLS.out] at hxs; have HXS := hideIt hxs; clear hg1 hg2 hg3 hg4 HO5 HA5 hxs ho5 hbS)
                | ((with_reducible refine at_load ?_); refine wpList_ldC (by kernel_rfl) (.tmp 3) rfl (p := w.heap.size) (c := c0) rfl (HBC.out.keep HBS.out).box ?_)
                | (go_at_call 12; refine (HPA.out _ HBS.out).mono ?_; rintro e w6 ⟨F6, c6, rfl, _, _, hb⟩; have G6 := hideIt (HBS.out.trans (hb.mono HBS.out.size)); have HX6 := hideIt ((HXS.out.below hb).wide hb.size); clear hb HPA)
                | ((with_reducible refine at_store ?_); refine wpList_put rfl _ (.tmp 8) (.tmp 54) rfl w6.heap.size [.int .i64 (k : Int), .slice F6 L.length c6] [.int .i64 0, .slice none 0 0] 30 rfl rfl (Blk.new w6 30 [.int .i64 0, .slice none 0 0]) iszP rfl (by simp [Value.oneCell']) ?_; intro w7 ht hb; have hbl := ht.below (below_new w6 (.cells #[.int .i64 0, .slice none 0 0] 30)) (Nat.le_refl _); have G7 := hideIt (G6.out.trans (hbl.mono G6.out.size)); have HX7 := hideIt ((HX6.out.below hbl).wide hbl.size); have HP7 := hideIt hb; clear ht hb hbl)
                | ((with_reducible refine at_load ?_); refine wpList_ldC (by kernel_rfl) (.tmp 3) rfl (p := w.heap.size) (c := c0) rfl (HBC.out.keep G7.out).box ?_)
                | (go_at_call 28; refine (HRC.out _ G7.out _ _ HX7.out).mono ?_; rintro e w8 ⟨rfl, hb⟩; have G8 := hideIt (G7.out.trans (hb.mono G7.out.size)); have J8 := hideIt hb; have HX8 := hideIt ((HX7.out.below hb).wide hb.size); clear hb HRC)
                | ((with_reducible refine at_load ?_); refine wpList_ldC (by kernel_rfl) (.tmp 3) rfl (p := w.heap.size) (c := c0) rfl (HBC.out.keep G8.out).box ?_)
                | (go_at_call 29; refine (HCB.out _ G8.out _ _ HX8.out).mono ?_; rintro e w9 ⟨v9, rfl, ho, hb⟩; obtain ⟨B9, cb9, rfl, _, _⟩ := own_form ho; have G9 := hideIt (G8.out.trans (hb.mono G8.out.size)); have J9 := hideIt (J8.out.trans (hb.mono J8.out.size)); have e9 : w9.cell? ⟨w6.heap.size, 1, none⟩ = some (.slice F6 L.length c6) := (HP7.out.kept J9.out HP7.out.lt).cell 1; clear ho hb HCB J8)
                | ((with_reducible refine at_load ?_); refine wpList_ldC (by kernel_rfl) (.tmp 3) rfl (p := w.heap.size) (c := c0) rfl (HBC.out.keep G9.out).box ?_)
                | (go_at_call 15; refine (HCK.out _ G9.out).mono ?_; rintro e w10 ⟨F10, c10, rfl, hm10, hb⟩; have G10 := hideIt (G9.out.trans (hb.mono G9.out.size)); have J10 := hideIt (J9.out.trans (hb.mono J9.out.size)); have HM10 := hideIt hm10; clear hb hm10 HCK J9))
              have HX10 := hideIt ((HX7.out.below J10.out).wide J10.out.size)
              have HP10 := hideIt (HP7.out.kept J10.out HP7.out.lt)
              obtain ⟨p6, hp6⟩ : ∃ p, p = w6.heap.size := ⟨_, rfl⟩
              rw [← hp6] at HP10
              rw [← hp6]
              clear hp6 e9 HX7 HX8 HP7 HX6 G1 GV GW G6 G7 G8 G9 HPA HC1 HLS HX hfr
              go_loopg [6, 87] ps.length (fun gk s6 s87 wr => ∃ i : Nat, i + gk = ps.length ∧ s6 = .bool false ∧ s87 = .int .i64 (i : Int) ∧ Aside (Below w10.heap.size w10 wr))
              case atStart => exact ⟨0, by omega, rfl, rfl, Below.refl _ _⟩
              case round =>
                obtain ⟨i, hi, rfl, rfl, HLW⟩ := hrel
                obtain ⟨w11, rfl⟩ : ∃ x, x = wr := ⟨wr, rfl⟩
                obtain ⟨gO, rfl⟩ : ∃ x, x = gk := ⟨gk, rfl⟩
                have K11 := hideIt (G10.out.trans (HLW.out.mono G10.out.size))
                by_cases hlt : i < ps.length
                · have hinc := inc_c 3 i (by omega)
                  have hji : (i : Int) < (ps.length : Int) := by omega
                  obtain ⟨g7, o7, A7, d7, rfl, hg7, hc7, hs7⟩ := ((HM10.out.below HLW.out).wide HLW.out.size).nrow hlt
                  obtain ⟨hq1, hq2, hq3, hq4⟩ := HCH.out ps[i] (List.getElem_mem hlt)
                  obtain ⟨l, hl⟩ : ∃ l, l = ps[i] := ⟨_, rfl⟩
                  rw [← hl] at hc7 hs7 hq1 hq2 hq3 hq4
                  have HS7 := hideIt hs7
                  have HQ1 := hideIt hq1
                  have HQ4 := hideIt hq4
                  have HXW := hideIt ((HX10.out.below HLW.out).wide HLW.out.size)
                  have HPW := hideIt (HP10.out.kept HLW.out HP10.out.lt)
                  clear hg7 hs7 hq1 hq4 hl
                  go_wp2_with fail
                  go_loopg [14, 93] l.length (fun gj s14 s93 wr => ∃ j : Nat, j + gj = l.length ∧ s14 = .bool (avl l1 k (l.take j)) ∧ s93 = .int .i64 (j : Int) ∧ Aside (Below w11.heap.size w11 wr))
                  case atStart => exact ⟨0, by omega, rfl, rfl, Below.refl _ _⟩
                  case round =>
                    obtain ⟨j, hj, rfl, rfl, HLV⟩ := hrel
                    obtain ⟨w12, rfl⟩ : ∃ x, x = wr := ⟨wr, rfl⟩
                    by_cases hjt : j < l.length
                    · have hinc2 := inc_c 3 j (by omega)
                      have hjj : (j : Int) < (l.length : Int) := by omega
                      obtain ⟨g8, o8, rfl, hg8, hc8⟩ := ((HS7.out.below HLV.out).wide HLV.out.size).nat hjt
                      have hq := HQ1.out l[j] (List.getElem_mem hjt)
                      have HAT := hideIt (avl_take (hs := l1) (u := k) hjt)
                      obtain ⟨q, hqd⟩ : ∃ q, q = l[j] := ⟨_, rfl⟩
                      rw [← hqd] at hq HAT hc8
                      have hqi : (q : Int) < (l1.length : Int) := by omega
                      have hco := ot_cells ((HXW.out.below HLV.out).wide HLV.out.size) hq
                      obtain ⟨bq, hbq⟩ : ∃ b, b = (ot l1 k).getD q false := ⟨_, rfl⟩
                      rw [← hbq] at hco HAT
                      clear hbq hqd hg8 hq
                      cases hba : avl l1 k (l.take j) with
                      | false =>
                        rw [hba] at HAT
                        clear hba
                        go_wp2_with fail
                        go_roundg (gk - 1)
                        case measure => omega
                        case rel => exact ⟨j + 1, by omega, by rw [HAT.out]; rfl, by go_num, HLV.out⟩
                      | true =>
                        rw [hba] at HAT
                        clear hba
                        by_cases hqk : q = k
                        · have hqe : binOp .eql 3 (.int .i64 (q : Int)) (.int .i64 (k : Int)) = pure (.bool true) := by rw [i_eql, decide_eq_true (by omega)]
                          rw [decide_eq_true hqk] at HAT
                          clear hqk
                          go_wp2_with fail
                          go_roundg (gk - 1)
                          case measure => omega
                          case rel => exact ⟨j + 1, by omega, by rw [HAT.out]; simp, by go_num, HLV.out⟩
                        · have hqe : binOp .eql 3 (.int .i64 (q : Int)) (.int .i64 (k : Int)) = pure (.bool false) := by rw [i_eql, decide_eq_false (by omega)]
                          rw [decide_eq_false hqk] at HAT
                          clear hqk
                          go_wp2_with fail
                          go_roundg (gk - 1)
                          case measure => omega
                          case rel => exact ⟨j + 1, by omega, by rw [HAT.out]; simp, by go_num, HLV.out⟩
                    · have hjj : ¬ (j : Int) < (l.length : Int) := by omega
                      obtain rfl : j = l.length := by omega
                      rw [List.take_of_length_le (Nat.le_refl _)]
                      have hp1 : w12.cell? ⟨p6, 1, none⟩ = some (.slice F6 L.length c6) := (HPW.out.kept HLV.out HPW.out.lt).cell 1
                      have HL12 := hideIt (HLW.out.trans (HLV.out.mono HLW.out.size))
                      have hsub : binOp .sub 3 (.int .i64 (l.length : Int)) (.int .i64 1) = pure (.int .i64 ((l.length - 1 : Nat) : Int)) := sub_nat _ l.length 1 hq3 (by omega)
                      cases hba : avl l1 k l with
                      | false =>
                        clear hba hsub
                        go_wp2_with fail
                        go_roundg (gO - 1)
                        case measure => omega
                        case rel => exact ⟨i + 1, by omega, rfl, by go_num, HL12.out⟩
                      | true =>
                        have hlq := HQ4.out hba
                        obtain ⟨z, hz⟩ : ∃ z : Int, z = ((l.length - 1 : Nat) : Int) := ⟨_, rfl⟩
                        have hgt : binOp .gtr 3 (.int .i64 (L.length : Int)) (.int .i64 z) = pure (.bool false) := by rw [binOp_gtr, decide_eq_false (by omega)]
                        rw [← hz] at hsub
                        clear hba hlq hz
                        go_wp2_with fail
                        go_roundg (gO - 1)
                        case measure => omega
                        case rel => exact ⟨i + 1, by omega, rfl, by go_num, HL12.out⟩
                · have hji : ¬ (i : Int) < (ps.length : Int) := by omega
                  go_wp2_with (first | (go_at_call 11; refine (HSA.out _ K11.out).mono ?_; rintro e w2 ⟨rfl, hb⟩; have G2 := hideIt ((K11.out).trans (hb.mono (K11.out).size)); clear hb HSA))
                  go_ret
                  exact ⟨rfl, HB0.out.trans (G2.out.mono HB0.out.size)⟩
      · have hg0 : binOp .neq 3 (.int .i64 (l1.length : Int)) (.int .i64 (wC a0)) = pure (.bool true) := by rw [i_neq, decide_eq_true hwd]
        clear hsm hS hv hwd
        generalize wC a0 = wz at *
        go_enter Tryd.func8, Tryd.ntmps8
        go_wp2_with (first | (go_at_call 10; rw [← HWE.out]; refine HSM.out.mono ?_; rintro e w1 ⟨rfl, hb⟩; have G1 := hideIt hb; clear hb HSM) | ((with_reducible refine at_load ?_); refine wpList_ldC (by kernel_rfl) (.tmp 3) rfl (p := w.heap.size) (c := c0) rfl (by rw [← HWE.out]; exact HBC.out.box) ?_) | ((with_reducible refine at_load ?_); refine wpList_ldC (by kernel_rfl) (.tmp 3) rfl (p := w.heap.size) (c := c0) rfl (HBC.out.keep G1.out).box ?_) | (go_at_call 26; refine (HVL.out _ G1.out).mono ?_; rintro e wv ⟨rfl, hb⟩; have GV := hideIt (G1.out.trans (hb.mono G1.out.size)); clear hb HVL) | ((with_reducible refine at_load ?_); refine wpList_ldC (by kernel_rfl) (.tmp 3) rfl (p := w.heap.size) (c := c0) rfl (HBC.out.keep GV.out).box ?_) | (go_at_call 27; refine (HWI.out _ GV.out).mono ?_; rintro e ww ⟨rfl, hb⟩; have GW := hideIt (GV.out.trans (hb.mono GV.out.size)); clear hb HWI) | (go_at_call 11; refine (HSA.out _ GW.out).mono ?_; rintro e w2 ⟨rfl, hb⟩; have G2 := hideIt ((GW.out).trans (hb.mono (GW.out).size)); clear hb HSA))
        go_ret
        exact ⟨rfl, HB0.out.trans (G2.out.mono HB0.out.size)⟩
    · have hf : vC a0 = false := Bool.eq_false_iff.2 hv
      rw [hf] at HVL
      clear hsm hS hv hf
      go_enter Tryd.func8, Tryd.ntmps8
      go_wp2_with (first | (go_at_call 10; rw [← HWE.out]; refine HSM.out.mono ?_; rintro e w1 ⟨rfl, hb⟩; have G1 := hideIt hb; clear hb HSM) | ((with_reducible refine at_load ?_); refine wpList_ldC (by kernel_rfl) (.tmp 3) rfl (p := w.heap.size) (c := c0) rfl (by rw [← HWE.out]; exact HBC.out.box) ?_) | ((with_reducible refine at_load ?_); refine wpList_ldC (by kernel_rfl) (.tmp 3) rfl (p := w.heap.size) (c := c0) rfl (HBC.out.keep G1.out).box ?_) | (go_at_call 26; refine (HVL.out _ G1.out).mono ?_; rintro e wv ⟨rfl, hb⟩; have GV := hideIt (G1.out.trans (hb.mono G1.out.size)); clear hb HVL) | (go_at_call 11; refine (HSA.out _ GV.out).mono ?_; rintro e w2 ⟨rfl, hb⟩; have G2 := hideIt ((GV.out).trans (hb.mono (GV.out).size)); clear hb HSA))
      go_ret
      exact ⟨rfl, HB0.out.trans (G2.out.mono HB0.out.size)⟩
  · have hf : smB a0 = false := Bool.eq_false_iff.2 hsm
    rw [hf] at HSM
    clear hsm hf
    go_enter Tryd.func8, Tryd.ntmps8
    go_wp2_with (first | (go_at_call 10; rw [← HWE.out]; refine HSM.out.mono ?_; rintro e w1 ⟨rfl, hb⟩; have G1 := hideIt hb; clear hb HSM) | ((with_reducible refine at_load ?_); refine wpList_ldC (by kernel_rfl) (.tmp 3) rfl (p := w.heap.size) (c := c0) rfl (by rw [← HWE.out]; exact HBC.out.box) ?_) | (go_at_call 11; refine (HSA.out _ G1.out).mono ?_; rintro e w2 ⟨rfl, hb⟩; have G2 := hideIt ((G1.out).trans (hb.mono (G1.out).size)); clear hb HSA))
    go_ret
    exact ⟨rfl, HB0.out.trans (G2.out.mono HB0.out.size)⟩

end Go.Proofs.YtklngodlijiccaaDoor.repairFewest
