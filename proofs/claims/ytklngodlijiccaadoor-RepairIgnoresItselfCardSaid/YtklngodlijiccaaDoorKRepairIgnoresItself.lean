/-
  The walk of the law: What a plan for one unit is does not depend on whether that unit is said to be present.
-/
import Derived.Test.YtklngodlijiccaaDoorRepC
namespace Go.Proofs.YtklngodlijiccaaDoor.repairIgnoresItself
open Go.RowKit
set_option linter.unusedVariables false


set_option maxHeartbeats 1600000 in
set_option maxRecDepth 100000 in
theorem walk (a0 : Cd) (A0 : Option Addr) (c0 : Nat) (l1 : List Bool) (A1 : Option Addr) (c1 : Nat) (a2 : Int) (w : World) (x0 : CIn w a0 A0) (x1 : Sl w w.heap.size A1 1 l1.length (l1.map bl)) (m1 : l1.length ≤ 140737488351232) (w2 : -9223372036854775808 ≤ a2 ∧ a2 ≤ 9223372036854775807) (T1 : Tabs w) :
    Calls Tryd.prog 9 #[a0.v A0 c0, .slice A1 l1.length c1, .int .i64 a2] w fun e w' => e = .returned (.bool true) ∧ Below w.heap.size w w' := by
  obtain ⟨W0, hW0⟩ : ∃ W, W = w.alloc (.cells (a0.cs A0 c0).toArray 24) := ⟨_, rfl⟩
  have hb0 : Below w.heap.size w W0 := by rw [hW0]; exact below_new w _
  have HB0 := hideIt hb0
  have HBC := hideIt (show BC W0 w.heap.size a0 A0 c0 by rw [hW0]; exact BC.new c0 x0)
  have HT := hideIt (T1.keep hb0)
  have HX := hideIt ((x1.below hb0).wide hb0.size)
  have HWE := hideIt hW0
  have HSA := hideIt (fun (W : World) (h : Below W0.heap.size W0 W) => sanity_any W (HT.out.keep h))
  have HSM := hideIt (small_any a0 A0 c0 W0 HBC.out.cin)
  have hnot := not_b
  have HM := hideIt m1
  clear hW0 hb0 x0 x1 T1 m1
  by_cases hsm : smB a0 = true
  · rw [hsm] at HSM
    by_cases hu0 : a2 < 0
    · have hg1 : binOp .lss 3 (.int .i64 a2) (.int .i64 0) = pure (.bool true) := by rw [binOp_lss, decide_eq_true hu0]
      clear hsm hu0
      go_enter Tryd.func9, Tryd.ntmps9
      go_wp2_with (first | (go_at_call 10; rw [← HWE.out]; refine HSM.out.mono ?_; rintro e w1 ⟨rfl, hb⟩; have G1 := hideIt hb; clear hb HSM) | ((with_reducible refine at_load ?_); refine wpList_ldC (by kernel_rfl) (.tmp 3) rfl (p := w.heap.size) (c := c0) rfl (by rw [← HWE.out]; exact HBC.out.box) ?_) | (go_at_call 11; refine (HSA.out _ G1.out).mono ?_; rintro e w2 ⟨rfl, hb⟩; have G2 := hideIt (G1.out.trans (hb.mono G1.out.size)); clear hb HSA))
      go_ret
      exact ⟨rfl, HB0.out.trans (G2.out.mono HB0.out.size)⟩
    · have hg1 : binOp .lss 3 (.int .i64 a2) (.int .i64 0) = pure (.bool false) := by rw [binOp_lss, decide_eq_false hu0]
      by_cases hle : (l1.length : Int) ≤ a2
      · have hg2 : binOp .geq 3 (.int .i64 a2) (.int .i64 (l1.length : Int)) = pure (.bool true) := by rw [binOp_geq, decide_eq_true hle]
        clear hsm hu0 hle
        go_enter Tryd.func9, Tryd.ntmps9
        go_wp2_with (first | (go_at_call 10; rw [← HWE.out]; refine HSM.out.mono ?_; rintro e w1 ⟨rfl, hb⟩; have G1 := hideIt hb; clear hb HSM) | ((with_reducible refine at_load ?_); refine wpList_ldC (by kernel_rfl) (.tmp 3) rfl (p := w.heap.size) (c := c0) rfl (by rw [← HWE.out]; exact HBC.out.box) ?_) | (go_at_call 11; refine (HSA.out _ G1.out).mono ?_; rintro e w2 ⟨rfl, hb⟩; have G2 := hideIt (G1.out.trans (hb.mono G1.out.size)); clear hb HSA))
        go_ret
        exact ⟨rfl, HB0.out.trans (G2.out.mono HB0.out.size)⟩
      · have hg2 : binOp .geq 3 (.int .i64 a2) (.int .i64 (l1.length : Int)) = pure (.bool false) := by rw [binOp_geq, decide_eq_false hle]
        obtain ⟨k, hk0⟩ : ∃ k : Nat, a2 = (k : Int) := ⟨a2.toNat, by omega⟩
        subst hk0
        have hk : k < l1.length := by omega
        have hki : (k : Int) < (l1.length : Int) := by omega
        have hN0 : 0 < l1.length := by omega
        have HPA := hideIt (fun (W : World) (h : Below W0.heap.size W0 W) => plan_any a0 A0 c0 W (HT.out.keep h) (HBC.out.keep h).cin l1 A1 c1 ((HX.out.below h).wide h.size) (k : Int))
        have HPB := hideIt (fun (W : World) (h : Below W0.heap.size W0 W) (D : Option Addr) (cd : Nat) (hD : Sl W W.heap.size D 1 l1.length ((l1.set k (!l1[k])).map bl)) => by
          have := plan_any a0 A0 c0 W (HT.out.keep h) (HBC.out.keep h).cin (l1.set k (!l1[k])) D cd (by rw [List.length_set]; exact hD) (k : Int)
          rwa [List.length_set, planR_set] at this)
        have hpl := planR_len a0 l1 (k : Int)
        obtain ⟨pu, L, er, hr⟩ : ∃ pu L er, planR a0 l1 (k : Int) = ((pu, L), er) := ⟨_, _, _, rfl⟩
        rw [hr] at HPA HPB hpl
        have HPL := hideIt hpl
        have HSS := hideIt (same_it pu L hpl)
        have he1 : binOp .eql 31 (.int .i64 er) (.int .i64 er) = pure (.bool true) := by rw [i_eql, decide_eq_true rfl]
        obtain ⟨b1, o1, hA1, hbb1, hcc1⟩ := HX.out.2 (by rw [List.length_map]; exact hN0)
        have HC1 := hideIt (fun (W : World) (h : Below W0.heap.size W0 W) j u (hu : (l1.map bl)[j]? = some u) => show W.cell? ((⟨b1, o1, none⟩ : Addr).add j) = some u by rw [addr_add, h.cell (p := ⟨b1, o1 + j, none⟩) hbb1]; exact hcc1 j u hu)
        have HLS := hideIt (show (l1.map bl).set k (.bool (!l1[k])) = (l1.set k (!l1[k])).map bl by rw [List.map_set])
        subst hA1
        clear hsm hu0 hle hr hpl hbb1 hcc1
        go_enter Tryd.func9, Tryd.ntmps9
        go_wp2_with (first
          | (go_at_call 10; rw [← HWE.out]; refine HSM.out.mono ?_; rintro e w1 ⟨rfl, hb⟩; have G1 := hideIt hb; clear hb HSM) | ((with_reducible refine at_load ?_); refine wpList_ldC (by kernel_rfl) (.tmp 3) rfl (p := w.heap.size) (c := c0) rfl (by rw [← HWE.out]; exact HBC.out.box) ?_) | ((with_reducible refine at_load ?_); refine wpList_ldC (by kernel_rfl) (.tmp 3) rfl (p := w.heap.size) (c := c0) rfl (HBC.out.keep G1.out).box ?_)
          | (go_at_call 12; refine (HPA.out _ G1.out).mono ?_; rintro e w3 ⟨F3, c3, rfl, hs3, _, hb⟩; have HS3 := hideIt hs3; have G3 := hideIt (G1.out.trans (hb.mono G1.out.size)); clear hb hs3 HPA)
          | ((with_reducible refine at_store ?_); refine wpList_put rfl _ (.tmp 7) (.tmp 31) rfl w3.heap.size [.int .i64 pu, .slice F3 L.length c3] [.int .i64 0, .slice none 0 0] 30 rfl rfl (Blk.new w3 30 [.int .i64 0, .slice none 0 0]) iszP rfl (by simp [Value.oneCell']) ?_; intro w4 ht hb; have hbl := ht.below (below_new w3 (.cells #[.int .i64 0, .slice none 0 0] 30)) (Nat.le_refl _); have G4 := hideIt (G3.out.trans (hbl.mono G3.out.size)); have HP4 := hideIt hb; have HS4 := hideIt ((HS3.out.below hbl).wide hbl.size); clear ht hb hbl HS3)
          | ((with_reducible refine at_append ?_); refine wpList_apH (base := w4.heap.size) (z := .bool false) (size := 1) (n := 0) (m := l1.length) (news := l1.map bl) Tryd.underlying25 (by kernel_rfl) rfl (by decide) rfl (.tmp 33) (.tmp 34) rfl rfl (World.ownsRow_lit (base := w4.heap.size) (e := 4) (size := 1) w4 #[] 0 (Nat.le_refl _) (by decide) rfl) rfl (by simp) (fun j u hu => HC1.out _ (G4.out.trans ((below_new w4 (.cells #[] 4)).mono G4.out.size)) j u hu) (fun u hu => by obtain ⟨y, _, rfl⟩ := List.mem_map.1 hu; rfl) (by have := HM.out; omega) (by simp) ?_; intro v5 w5 HO5 HG5 HA5 HB5; rw [Nat.zero_add] at HO5; have ho5 : w5.ownsRow w4.heap.size 4 1 v5 l1.length (l1.map bl) := HO5.out; obtain ⟨g, cap, cur, rfl, hg1, hg2, hg3, hg4⟩ := own_cur ho5 hN0;  have hfr := hg2.free k; have hce : w5.cell? ⟨g, k, none⟩ = some (.bool l1[k]) := (hg2.cell k).trans (hg3 k _ (by rw [List.getElem?_map, List.getElem?_eq_getElem hk]; rfl)); have hbS := (below_set ((below_new w4 (.cells #[] 4)).trans HB5.out) hg1 k (.bool (!l1[k]))); have HBS := hideIt (G4.out.trans (hbS.mono G4.out.size)); have HPS := hideIt (HP4.out.kept hbS HP4.out.lt); have HSS4 := hideIt ((HS4.out.below hbS).wide hbS.size); have hxs := sl_set (k := k) (u := .bool (!l1[k])) hg2 hg3 hg4; rw [HLS.out] at hxs; have HXS := hideIt hxs; clear hg1 hg2 hg3 hg4 HO5 HA5 hxs ho5 hbS)
          | ((with_reducible refine at_load ?_); refine wpList_ldC (by kernel_rfl) (.tmp 3) rfl (p := w.heap.size) (c := c0) rfl (HBC.out.keep HBS.out).box ?_)
          | (go_at_call 12; refine (HPB.out _ HBS.out _ _ HXS.out).mono ?_; rintro e w6 ⟨F6, c6, rfl, hs6, _, hb⟩; have HS6 := hideIt hs6; have G6 := hideIt (HBS.out.trans (hb.mono HBS.out.size)); have HP6 := hideIt (HPS.out.kept hb HPS.out.lt); have HQ6 := hideIt ((HSS4.out.below hb).wide hb.size); clear hb hs6 HPB)
          | ((with_reducible refine at_store ?_); refine wpList_put rfl _ (.tmp 10) (.tmp 49) rfl w6.heap.size [.int .i64 pu, .slice F6 L.length c6] [.int .i64 0, .slice none 0 0] 30 rfl rfl (Blk.new w6 30 [.int .i64 0, .slice none 0 0]) iszP rfl (by simp [Value.oneCell']) ?_; intro w7 ht hb; have hbl := ht.below (below_new w6 (.cells #[.int .i64 0, .slice none 0 0] 30)) (Nat.le_refl _); have G7 := hideIt (G6.out.trans (hbl.mono G6.out.size)); have HR7 := hideIt hb; have HP7 := hideIt (HP6.out.kept hbl HP6.out.lt); have HS7 := hideIt ((HS6.out.below hbl).wide hbl.size); have HQ7 := hideIt ((HQ6.out.below hbl).wide hbl.size); clear ht hb hbl HS6 HQ6 HP6)
          | (go_at_call 11; refine (HSA.out _ G7.out).mono ?_; rintro e w8 ⟨rfl, hb⟩; have G8 := hideIt (G7.out.trans (hb.mono G7.out.size)); have hp0 : w8.cell? ⟨w3.heap.size, 0, none⟩ = some (.int .i64 pu) := (HP7.out.kept hb HP7.out.lt).cell 0; have hp1 : w8.cell? ⟨w3.heap.size, 1, none⟩ = some (.slice F3 L.length c3) := (HP7.out.kept hb HP7.out.lt).cell 1; have hq0 : w8.cell? ⟨w6.heap.size, 0, none⟩ = some (.int .i64 pu) := (HR7.out.kept hb HR7.out.lt).cell 0; have hq1 : w8.cell? ⟨w6.heap.size, 1, none⟩ = some (.slice F6 L.length c6) := (HR7.out.kept hb HR7.out.lt).cell 1; have HS8 := hideIt ((HS7.out.below hb).wide hb.size); have HQ8 := hideIt ((HQ7.out.below hb).wide hb.size); clear hb HSA)
          | (go_at_call 17; refine (HSS.out _ _ _ _ _ HQ8.out HS8.out).mono ?_; rintro e w9 ⟨rfl, hb⟩; have G9 := hideIt (G8.out.trans (hb.mono G8.out.size)); clear hb HSS))
        go_ret
        exact ⟨rfl, HB0.out.trans (G9.out.mono HB0.out.size)⟩
  · have hf : smB a0 = false := Bool.eq_false_iff.2 hsm
    rw [hf] at HSM
    clear hsm hf
    go_enter Tryd.func9, Tryd.ntmps9
    go_wp2_with (first | (go_at_call 10; rw [← HWE.out]; refine HSM.out.mono ?_; rintro e w1 ⟨rfl, hb⟩; have G1 := hideIt hb; clear hb HSM) | ((with_reducible refine at_load ?_); refine wpList_ldC (by kernel_rfl) (.tmp 3) rfl (p := w.heap.size) (c := c0) rfl (by rw [← HWE.out]; exact HBC.out.box) ?_) | (go_at_call 11; refine (HSA.out _ G1.out).mono ?_; rintro e w2 ⟨rfl, hb⟩; have G2 := hideIt (G1.out.trans (hb.mono G1.out.size)); clear hb HSA))
    go_ret
    exact ⟨rfl, HB0.out.trans (G2.out.mono HB0.out.size)⟩

end Go.Proofs.YtklngodlijiccaaDoor.repairIgnoresItself
