/-
  digest.clash, walked: the search for the last inputs that differ.
-/
import Derived.Test.YtkjnimcapjjfdaaDoorClash3
namespace Go.Proofs.YtkjnimcapjjfdaaDoor
open Go.RowKit
set_option linter.unusedVariables false

/-- The last place below k where two lists differ. -/
def lastD (xs ys : List (List UInt8)) : Nat → Option (List UInt8 × List UInt8)
  | 0 => none
  | k + 1 => if xs.getD k [] = ys.getD k [] then lastD xs ys k else some (xs.getD k [], ys.getD k [])
/-- A cell's row, element by element. -/
def RowAt (W : World) (g b o c n : Nat) (ms : List (List UInt8)) : Prop :=
  W.cell? ⟨g, 0, none⟩ = some (.slice (some ⟨b, o, none⟩) n c) ∧ n ≤ c ∧ ∀ j, j < n → ∃ Au cu, W.cell? ⟨b, o + j, none⟩ = some (.slice Au (ms.getD j []).length cu) ∧ W.ownsRow 0 5 1 (.slice Au (ms.getD j []).length cu) (ms.getD j []).length ((ms.getD j []).map bv)
theorem CellMsgs.rowAt {W : World} {base g q : Nat} {vr : Value} {ms : List (List UInt8)} (h : CellMsgs W base g vr ms) (hm : ms.length = q + 1) : ∃ b o c, RowAt W g b o c (q + 1) ms := by
  obtain ⟨hb, xs, ho, he⟩ := h
  rw [hm] at ho
  obtain ⟨A, c, rfl, h1, h2⟩ := own_form ho
  have hx : xs.length = q + 1 := by rw [ho.1, Nat.mul_one]
  have hu : ∀ j, j < q + 1 → xs[j]? = some (xs.getD j undef) := fun j hj => by rw [List.getD_eq_getElem?_getD, List.getElem?_eq_getElem (by omega)]; rfl
  obtain ⟨b, o, rfl, _, _⟩ := sl_at (Sl.of_own ho) (hu 0 (by omega))
  refine ⟨b, o, c, by rw [hb.cell]; rfl, h1, fun j hj => ?_⟩
  have hmj : ms[j]? = some (ms.getD j []) := by rw [List.getD_eq_getElem?_getD, List.getElem?_eq_getElem (by omega)]; rfl
  have hr := he j _ _ (hu j hj) hmj
  obtain ⟨Au, cu, hv, _, _⟩ := own_form hr
  obtain ⟨b', o', hbo, _, hc⟩ := sl_at (Sl.of_own ho) (hu j hj)
  simp only [Option.some.injEq, Addr.mk.injEq] at hbo
  obtain ⟨rfl, rfl, _⟩ := hbo
  rw [hv] at hr hc
  exact ⟨Au, cu, hc, hr⟩

set_option maxHeartbeats 1600000 in
set_option maxRecDepth 100000 in
theorem clash_yes (a b : List UInt8) (ha : a.length = 16) (hb : b.length = 16) (n i : Int) (hn : n ≤ 9223372036854775807) (A A' : Option Addr) (c c' : Nat) (ds es : List (List UInt8)) (w : World) (hD : Ds w w.heap.size A ds.length ds) (hE : Ds w w.heap.size A' es.length es) (hp : ds.length ≤ 1000000000) (hq : es.length ≤ 1000000000) (hT : Tab w 1)
    (h1 : fitB n i ds = true) (h2 : fitB n i es = true) (h3 : rootF n i ds a = rootF n i es b) (q : Nat) (hq9 : q ≤ 1000000000) (hm : (insF n i ds a).length = q + 1) (hm' : (insF n i es b).length = q + 1) :
    Calls Tryd.prog 51 #[.int .i64 n, .int .i64 i, dv a, dv b, .slice A ds.length c, .slice A' es.length c', (.func (.func 35) #[] #[])] w fun e w' => ∃ vx vy, e = .returned (.tuple #[vx, vy, .bool (lastD (insF n i ds a) (insF n i es b) (q + 1)).isSome]) ∧
      w'.ownsRow 0 5 1 vx ((lastD (insF n i ds a) (insF n i es b) (q + 1)).getD ([], [])).1.length (((lastD (insF n i ds a) (insF n i es b) (q + 1)).getD ([], [])).1.map bv) ∧
      w'.ownsRow 0 5 1 vy ((lastD (insF n i ds a) (insF n i es b) (q + 1)).getD ([], [])).2.length (((lastD (insF n i ds a) (insF n i es b) (q + 1)).getD ([], [])).2.map bv) ∧ Below w.heap.size w w' := by
  obtain ⟨hbe, hs3, hka, hkb, hi0⟩ := clash_start a b w
  have hT1 := hT.1
  have hB0 : w.heap.size ≤ w.heap.size + 1 + 1 + 1 := by omega
  have HC1 := hideIt (fun (W : World) (hI : I1 (w.heap.size + 1 + 1 + 1) (((((w.alloc (.cells (a.map bv).toArray 30)).alloc (.cells (b.map bv).toArray 30)).alloc (.cells #[.func (.func 35) #[] #[]] 57)).alloc (.cells #[.slice none 0 0] 54)).alloc (.cells #[.slice none 0 0] 54)) (w.heap.size + 1 + 1) (w.heap.size + 1 + 1 + 1) (w.heap.size + 1 + 1 + 1 + 1) [] W) (hW : Below w.heap.size w W) => first_all (w.heap.size + 1 + 1 + 1) (((((w.alloc (.cells (a.map bv).toArray 30)).alloc (.cells (b.map bv).toArray 30)).alloc (.cells #[.func (.func 35) #[] #[]] 57)).alloc (.cells #[.slice none 0 0] 54)).alloc (.cells #[.slice none 0 0] 54)) (w.heap.size + 1 + 1) (w.heap.size + 1 + 1 + 1) (w.heap.size + 1 + 1 + 1 + 1) (by omega) (Nat.le_refl _) (by omega) a ha n i hn A c ds W hp ((hD.below hW (Nat.le_refl _)).wide hB0) (hT.keep hW) hI)
  have HC2 := hideIt (fun (W : World) (v1 : Value) (ms1 : List (List UInt8)) (hlt : ∀ k, v1.ownBlock = some k → k < W.heap.size) (hI : I2 (w.heap.size + 1 + 1 + 1) (((((w.alloc (.cells (a.map bv).toArray 30)).alloc (.cells (b.map bv).toArray 30)).alloc (.cells #[.func (.func 35) #[] #[]] 57)).alloc (.cells #[.slice none 0 0] 54)).alloc (.cells #[.slice none 0 0] 54)) (w.heap.size + 1 + 1) (w.heap.size + 1 + 1 + 1) (w.heap.size + 1 + 1 + 1 + 1) W.heap.size v1 ms1 [] W) (hW : Below w.heap.size w W) => second_all (w.heap.size + 1 + 1 + 1) (((((w.alloc (.cells (a.map bv).toArray 30)).alloc (.cells (b.map bv).toArray 30)).alloc (.cells #[.func (.func 35) #[] #[]] 57)).alloc (.cells #[.slice none 0 0] 54)).alloc (.cells #[.slice none 0 0] 54)) (w.heap.size + 1 + 1) (w.heap.size + 1 + 1 + 1) (w.heap.size + 1 + 1 + 1 + 1) W.heap.size v1 ms1 (by omega) (by omega) (by have := hI.hash.lt; omega) (by omega) hlt b hb n i hn A' c' es W hq ((hE.below hW (Nat.le_refl _)).wide hB0) (hT.keep hW) hI)
  have hxl := rootF_len n i ds a
  have hyl := rootF_len n i es b
  rw [h1] at HC1
  rw [h2, ← h3] at HC2
  rw [← h3] at hyl
  generalize rootF n i ds a = x at *
  have hyx : ∃ y, y = x := ⟨_, rfl⟩
  generalize insF n i ds a = ms at *
  generalize insF n i es b = ns at *
  obtain ⟨y, hy⟩ := hyx
  rw [← hy] at HC2 hyl
  have heq := equal_digest x y hxl hyl
  rw [decide_eq_true hy.symm] at heq
  have HX := hideIt hxl
  have HY := hideIt hyl
  have HA := hideIt ha
  have HB := hideIt hb
  have HBE := hideIt hbe
  have HKA := hideIt hka
  have HKB := hideIt hkb
  have HI0 := hideIt hi0
  have HML := hideIt hm
  have HNL := hideIt hm'
  clear hxl hyl ha hb hbe hka hkb hi0 hD hE hT hs3 h1 h2 h3 hm hm' hy
  go_enter Tryd.func51, Tryd.ntmps51
  go_wp2_with (first
    | ((with_reducible refine at_load ?_); refine wpList_get rfl 30 (.tmp 9) rfl (w.heap.size) (a.map bv) 30 (.array 16 5) rfl HKA.out (by kernel_rfl) rfl (isize16 _ HA.out) ?_)
    | (go_at_call 48; refine (HC1.out _ HI0.out HBE.out).mono ?_; rintro e w2 ⟨rfl, hi, hk⟩; have HI1 := hideIt hi; have HE1 := hideIt (HBE.out.trans (hk.below.mono hB0)); have HKB1 := hideIt (HKB.out.kept hi.bel (by omega)); clear hi hk HC1 HI0 HBE HKA HKB)
    | ((with_reducible refine at_store ?_); refine wpList_put rfl 30 (.tmp 19) (.tmp 31) rfl w2.heap.size (x.map bv) _ _ rfl rfl (Blk.new w2 30 (List.replicate 16 (Value.int .u8 0))) (by rw [List.length_map, HX.out]; kernel_rfl) (by rw [List.length_map, HX.out]; rfl) (bv_one _) ?_; intro w3 ht hb; have hbb : Below w2.heap.size w2 w3 := ht.below (below_new w2 (.cells (List.replicate 16 (Value.int .u8 0)).toArray 30)) (Nat.le_refl _); have HR1 := hideIt hb; have HI13 := hideIt (HI1.out.keepT (KeepT.of_below hbb HI1.out.size)); have HE3 := hideIt (HE1.out.trans (hbb.mono HE1.out.size)); have HKB3 := hideIt (HKB1.out.kept hbb HKB1.out.lt); obtain ⟨v1, hcm⟩ := HI13.out.one; obtain ⟨hI2, hlt⟩ := I1.next HI13.out hcm; have HI23 := hideIt hI2; have HLT := hideIt hlt; clear HI1 HE1 HKB1 hcm hI2 hlt; clear ht hb hbb)
    | ((with_reducible refine at_load ?_); refine wpList_get rfl 30 (.tmp 10) rfl (w.heap.size + 1) (b.map bv) 30 (.array 16 5) rfl HKB3.out (by kernel_rfl) rfl (isize16 _ HB.out) ?_)
    | (go_at_call 48; refine (HC2.out _ _ _ HLT.out HI23.out HE3.out).mono ?_; rintro e w4 ⟨rfl, hi, hk⟩; have HI4 := hideIt hi; have HE4 := hideIt (HE3.out.trans (hk.below.mono hB0)); have HR14 := hideIt (HR1.out.keepT hk (by decide)); clear hi hk HC2 HI23 HE3 HKB3)
    | ((with_reducible refine at_store ?_); refine wpList_put rfl 30 (.tmp 21) (.tmp 40) rfl w4.heap.size (y.map bv) _ _ rfl rfl (Blk.new w4 30 (List.replicate 16 (Value.int .u8 0))) (by rw [List.length_map, HY.out]; kernel_rfl) (by rw [List.length_map, HY.out]; rfl) (bv_one _) ?_; intro w5 ht hb; have hbb : Below w4.heap.size w4 w5 := ht.below (below_new w4 (.cells (List.replicate 16 (Value.int .u8 0)).toArray 30)) (Nat.le_refl _); have HR25 := hideIt hb; have HR15 := hideIt (HR14.out.kept hbb HR14.out.lt); have HI5 := hideIt (HI4.out.keepT (KeepT.of_below hbb ((show _ ≤ _ by have h9 := HI4.out.hash.lt; have h8 := HI4.out.size; omega)))); have HE5 := hideIt (HE4.out.trans (hbb.mono HE4.out.size)); obtain ⟨b1, o1, c1, hr1⟩ := CellMsgs.rowAt HI5.out.one HML.out; obtain ⟨v2, hcm2⟩ := HI5.out.two; obtain ⟨b2, o2, c2, hr2⟩ := CellMsgs.rowAt hcm2 HNL.out; have hc1 := hr1.1; have HM1 := hideIt hr1; have HM2 := hideIt hr2; clear HI4 HE4 HR14 hr1 hr2 hcm2; clear ht hb hbb)
    | ((with_reducible refine at_load ?_); refine wpList_get_g (by kernel_rfl) 30 (.tmp 19) rfl (w2.heap.size) (x.map bv) 30 (.array 16 5) rfl HR15.out (by kernel_rfl) rfl (isize16 _ HX.out) ?_)
    | ((with_reducible refine at_load ?_); refine wpList_get_g (by kernel_rfl) 30 (.tmp 21) rfl (w4.heap.size) (y.map bv) 30 (.array 16 5) rfl HR25.out (by kernel_rfl) rfl (isize16 _ HY.out) ?_))
  go_loopg [23] (q + 2) (fun g s23 wr => ∃ (k : Nat) (z : Int), g = k + 1 ∧ z + 1 = (k : Int) ∧ k ≤ q + 1 ∧ s23 = .int .i64 z ∧ Hid (lastD ms ns k = lastD ms ns (q + 1)) ∧ Hid (RowAt wr (w.heap.size + 1 + 1 + 1) b1 o1 c1 (q + 1) ms) ∧ Hid (RowAt wr (w.heap.size + 1 + 1 + 1 + 1) b2 o2 c2 (q + 1) ns) ∧ Hid (Below w.heap.size w wr))
  case atStart => exact ⟨q + 1, q, rfl, by omega, Nat.le_refl _, by go_num, rfl, HM1, HM2, HE5⟩
  case round =>
    obtain ⟨k, z, hg, hz, hk, rfl, HL, HM1, HM2, HBW⟩ := hrel
    obtain ⟨wo, rfl⟩ : ∃ x, x = wr := ⟨wr, rfl⟩
    clear hc1 heq HE5 HI5 HR15 HR25
    by_cases hz0 : z < 0
    · obtain rfl : k = 0 := by omega
      have htest : decide ((0 : Int) ≤ z) = false := by simp; omega
      have HLN : Hid (lastD ms ns (q + 1) = none) := HL.out.symm
      clear hz0
      go_wp2_with fail
      go_ret3
      rw [HLN.out]
      exact ⟨_, _, rfl, World.ownsRow_nil _ _ _ _, World.ownsRow_nil _ _ _ _, HBW.out⟩
    · obtain ⟨j, rfl⟩ : ∃ j : Nat, z = j := ⟨z.toNat, by omega⟩
      obtain rfl : k = j + 1 := by omega
      have htest : decide ((0 : Int) ≤ (j : Int)) = true := by simp
      obtain ⟨Au, cu, hcu, hou⟩ := HM1.out.2.2 j (by omega)
      obtain ⟨Av, cv, hcv, hov⟩ := HM2.out.2.2 j (by omega)
      have hstep := HL.out
      rw [lastD] at hstep
      generalize ms.getD j [] = mu at *
      generalize ns.getD j [] = mv at *
      have hjq : (j : Int) < (q : Int) + 1 := by omega
      have HEQB := hideIt (fun (W : World) (hW : W = wo.drew) => (by rw [hW]; exact bytesEqual_any Au Av wo.heap.size cu cv mu mv wo.drew (Sl.of_own hou) (Sl.of_own hov) : Calls Tryd.prog 61 #[.slice Au mu.length cu, .slice Av mv.length cv] W fun e w' => e = .returned (.bool (decide (mu = mv))) ∧ W = w'))
      have HC1 := hideIt hcu
      have HC2 := hideIt hcv
      have HOU := hideIt hou
      have HOV := hideIt hov
      clear hcu hcv hou hov hz0 hz
      by_cases hmm : mu = mv
      · rw [if_pos hmm] at hstep
        have HST := hideIt hstep
        rw [decide_eq_true hmm] at HEQB
        clear hmm hstep
        go_wp2_with fail
        refine still_tail 8 (by kernel_rfl) (by kernel_rfl) ?_
        intro w8 hw8
        have Hw8 := hideIt hw8
        have w8q0 : w8.cell? ⟨w.heap.size + 1 + 1 + 1, 0, none⟩ = some (.slice (some ⟨b1, o1, none⟩) (q + 1) c1) := by rw [hw8]; exact HM1.out.1
        have w8q1 : w8.cell? ⟨b1, o1 + j, none⟩ = some (.slice Au mu.length cu) := by rw [hw8]; exact HC1.out
        have w8q2 : w8.cell? ⟨w.heap.size + 1 + 1 + 1 + 1, 0, none⟩ = some (.slice (some ⟨b2, o2, none⟩) (q + 1) c2) := by rw [hw8]; exact HM2.out.1
        have w8q3 : w8.cell? ⟨b2, o2 + j, none⟩ = some (.slice Av mv.length cv) := by rw [hw8]; exact HC2.out
        clear hw8
        simp only [List.take_succ_cons, List.take_zero, List.drop_succ_cons, List.drop_zero]
        repeat still_step
        refine wpStill_nil ?_
        go_wp2_with (go_at_call 61; refine (HEQB.out _ Hw8.out).mono ?_; rintro e w' ⟨rfl, rfl⟩)
        go_roundg (gk - 1)
        case measure => omega
        case rel => exact ⟨j, (j : Int) - 1, by omega, by omega, by omega, by go_num, HST.out, by rw [Hw8.out]; exact HM1, by rw [Hw8.out]; exact HM2, by rw [Hw8.out]; exact HBW.out.drew⟩
      · rw [if_neg hmm] at hstep
        have HST := hideIt hstep
        rw [decide_eq_false hmm] at HEQB
        clear hmm hstep
        go_wp2_with fail
        refine still_tail 8 (by kernel_rfl) (by kernel_rfl) ?_
        intro w8 hw8
        have Hw8 := hideIt hw8
        have w8q0 : w8.cell? ⟨w.heap.size + 1 + 1 + 1, 0, none⟩ = some (.slice (some ⟨b1, o1, none⟩) (q + 1) c1) := by rw [hw8]; exact HM1.out.1
        have w8q1 : w8.cell? ⟨b1, o1 + j, none⟩ = some (.slice Au mu.length cu) := by rw [hw8]; exact HC1.out
        have w8q2 : w8.cell? ⟨w.heap.size + 1 + 1 + 1 + 1, 0, none⟩ = some (.slice (some ⟨b2, o2, none⟩) (q + 1) c2) := by rw [hw8]; exact HM2.out.1
        have w8q3 : w8.cell? ⟨b2, o2 + j, none⟩ = some (.slice Av mv.length cv) := by rw [hw8]; exact HC2.out
        clear hw8
        simp only [List.take_succ_cons, List.take_zero, List.drop_succ_cons, List.drop_zero]
        repeat still_step
        refine wpStill_nil ?_
        go_wp2_with (go_at_call 61; refine (HEQB.out _ Hw8.out).mono ?_; rintro e w' ⟨rfl, rfl⟩)
        refine loads_begin_n 11 [(8, fun W' => W'.cell? ⟨w.heap.size + 1 + 1 + 1, 0, none⟩ = some (.slice (some ⟨b1, o1, none⟩) (q + 1) c1)), (8, fun W' => W'.cell? ⟨b1, o1 + j, none⟩ = some (.slice Au mu.length cu)), (9, fun W' => W'.cell? ⟨w.heap.size + 1 + 1 + 1 + 1, 0, none⟩ = some (.slice (some ⟨b2, o2, none⟩) (q + 1) c2)), (9, fun W' => W'.cell? ⟨b2, o2 + j, none⟩ = some (.slice Av mv.length cv))] rfl (by kernel_rfl) ?_
        refine wpAnyL_take (oi := ⟨some 70, _, _, _, _, _⟩) 0 8 ((.slice (some ⟨b1, o1, none⟩) (q + 1) c1)) _ rfl (by kernel_rfl) (by kernel_rfl) (by kernel_rfl) (by kernel_rfl) (by kernel_rfl) (by kernel_rfl) (.head _) (fun _ _ _ h => h) (by kernel_rfl) (fun W' hW' => by (try dsimp only at hW'); go_simp) (Hooks.add w8q0 (Hooks.add w8q1 (Hooks.add w8q2 (Hooks.add w8q3 (Hooks.nil _ _))))) ?_
        try simp only [Act.put]
        try simp only [List.setIfInBounds_toArray]
        try simp only [List.set_cons_succ]
        try simp only [List.set_cons_zero]
        refine wpAnyL_move (oi := ⟨some 71, _, _, _, _, _⟩) 1 ?_ rfl (by kernel_rfl) (by kernel_rfl) (by kernel_rfl) (by kernel_rfl) (fun _ _ _ h => h) (by kernel_rfl) ?_ (Hooks.add w8q0 (Hooks.add w8q1 (Hooks.add w8q2 (Hooks.add w8q3 (Hooks.nil _ _))))) ?_
        rotate_left
        · intro W'; go_simp; first | done | with_reducible rfl
        try simp only [Act.put]
        try simp only [List.setIfInBounds_toArray]
        try simp only [List.set_cons_succ]
        try simp only [List.set_cons_zero]
        refine wpAnyL_move (oi := ⟨some 72, _, _, _, _, _⟩) 2 ?_ rfl (by kernel_rfl) (by kernel_rfl) (by kernel_rfl) (by kernel_rfl) (fun _ _ _ h => h) (by kernel_rfl) ?_ (Hooks.add w8q0 (Hooks.add w8q1 (Hooks.add w8q2 (Hooks.add w8q3 (Hooks.nil _ _))))) ?_
        rotate_left
        · intro W'; go_simp; first | done | with_reducible rfl
        try simp only [Act.put]
        try simp only [List.setIfInBounds_toArray]
        try simp only [List.set_cons_succ]
        try simp only [List.set_cons_zero]
        refine wpAnyL_take (oi := ⟨some 73, _, _, _, _, _⟩) 3 8 (.slice Au mu.length cu) _ rfl (by kernel_rfl) (by kernel_rfl) (by kernel_rfl) (by kernel_rfl) (by kernel_rfl) (by kernel_rfl) (.tail _ (.head _)) (fun _ _ _ h => h) (by kernel_rfl) (fun W' hW' => by (try dsimp only at hW'); go_simp) (Hooks.add w8q0 (Hooks.add w8q1 (Hooks.add w8q2 (Hooks.add w8q3 (Hooks.nil _ _))))) ?_
        try simp only [Act.put]
        try simp only [List.setIfInBounds_toArray]
        try simp only [List.set_cons_succ]
        try simp only [List.set_cons_zero]
        refine wpAnyL_take (oi := ⟨some 74, _, _, _, _, _⟩) 4 9 ((.slice (some ⟨b2, o2, none⟩) (q + 1) c2)) _ rfl (by kernel_rfl) (by kernel_rfl) (by kernel_rfl) (by kernel_rfl) (by kernel_rfl) (by kernel_rfl) (.tail _ (.tail _ (.head _))) (fun _ _ _ h => h) (by kernel_rfl) (fun W' hW' => by (try dsimp only at hW'); go_simp) (Hooks.add w8q0 (Hooks.add w8q1 (Hooks.add w8q2 (Hooks.add w8q3 (Hooks.nil _ _))))) ?_
        try simp only [Act.put]
        try simp only [List.setIfInBounds_toArray]
        try simp only [List.set_cons_succ]
        try simp only [List.set_cons_zero]
        refine wpAnyL_move (oi := ⟨some 75, _, _, _, _, _⟩) 5 ?_ rfl (by kernel_rfl) (by kernel_rfl) (by kernel_rfl) (by kernel_rfl) (fun _ _ _ h => h) (by kernel_rfl) ?_ (Hooks.add w8q0 (Hooks.add w8q1 (Hooks.add w8q2 (Hooks.add w8q3 (Hooks.nil _ _))))) ?_
        rotate_left
        · intro W'; go_simp; first | done | with_reducible rfl
        try simp only [Act.put]
        try simp only [List.setIfInBounds_toArray]
        try simp only [List.set_cons_succ]
        try simp only [List.set_cons_zero]
        refine wpAnyL_move (oi := ⟨some 76, _, _, _, _, _⟩) 6 ?_ rfl (by kernel_rfl) (by kernel_rfl) (by kernel_rfl) (by kernel_rfl) (fun _ _ _ h => h) (by kernel_rfl) ?_ (Hooks.add w8q0 (Hooks.add w8q1 (Hooks.add w8q2 (Hooks.add w8q3 (Hooks.nil _ _))))) ?_
        rotate_left
        · intro W'; go_simp; first | done | with_reducible rfl
        try simp only [Act.put]
        try simp only [List.setIfInBounds_toArray]
        try simp only [List.set_cons_succ]
        try simp only [List.set_cons_zero]
        refine wpAnyL_take (oi := ⟨some 77, _, _, _, _, _⟩) 7 9 (.slice Av mv.length cv) _ rfl (by kernel_rfl) (by kernel_rfl) (by kernel_rfl) (by kernel_rfl) (by kernel_rfl) (by kernel_rfl) (.tail _ (.tail _ (.tail _ (.head _)))) (fun _ _ _ h => h) (by kernel_rfl) (fun W' hW' => by (try dsimp only at hW'); go_simp) (Hooks.add w8q0 (Hooks.add w8q1 (Hooks.add w8q2 (Hooks.add w8q3 (Hooks.nil _ _))))) ?_
        try simp only [Act.put]
        try simp only [List.setIfInBounds_toArray]
        try simp only [List.set_cons_succ]
        try simp only [List.set_cons_zero]
        refine wpAnyL_one 8 (by kernel_rfl) rfl (fun K hK => ?_)
        go_wp2_with fail
        refine hK _ _ (Hooks.skip (by kernel_rfl) (Hooks.skip (by kernel_rfl) (Hooks.add w8q2 (Hooks.add w8q3 (Hooks.nil _ _))))) ?_
        clear hK K
        refine loads_tail 9 (by kernel_rfl) (by kernel_rfl) (by kernel_rfl) (by kernel_rfl) ?_
        simp only [List.drop_succ_cons, List.drop_zero]
        go_wp2_with fail
        go_ret3
        rw [← HST.out]
        rw [Hw8.out]
        exact ⟨_, _, rfl, HOU.out, HOV.out, HBW.out.drew.drew⟩

end Go.Proofs.YtkjnimcapjjfdaaDoor
