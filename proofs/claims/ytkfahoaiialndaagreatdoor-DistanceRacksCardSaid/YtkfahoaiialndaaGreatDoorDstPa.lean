/-
  The program's Left, Fatal, Racks and Losses, walked: its four functions by contract (pg).
-/
import Derived.Test.YtkfahoaiialndaaGreatDoorDstL
import Derived.Test.YtkfahoaiialndaaGreatDoorDstRa
import Derived.Test.YtkfahoaiialndaaGreatDoorDstY
namespace Go.Proofs.YtkfahoaiialndaaGreatDoor
open Go.RowKit Go.Shelf
set_option linter.unusedVariables false
set_option linter.unusedSimpArgs false

theorem prF_next (hs : List Bool) (k : Nat) : prF hs 0 (k + 1) = if hs.getD k false = true then prF hs 0 k ++ [[k]] else prF hs 0 k := by
  unfold prF
  rw [← List.range_eq_range', ← List.range_eq_range', List.range_succ, List.filter_append]
  by_cases h : hs.getD k false = true
  · rw [if_pos h, List.filter_cons, if_pos h, List.map_append]; rfl
  · rw [if_neg h, List.filter_cons, if_neg h]; simp
theorem prF_len (hs : List Bool) (k : Nat) : (prF hs 0 k).length ≤ k := by
  unfold prF
  rw [List.length_map, ← List.range_eq_range']
  have := List.length_filter_le (fun i => hs.getD i false) (List.range k)
  rwa [List.length_range] at this
theorem prF_mem (hs : List Bool) (k : Nat) {q : List Nat} (h : q ∈ prF hs 0 k) : q.length = 1 ∧ ∀ i ∈ q, i < k := by
  unfold prF at h
  rw [← List.range_eq_range'] at h
  obtain ⟨i, hi, rfl⟩ := List.mem_map.1 h
  have := List.mem_range.1 (List.mem_filter.1 hi).1
  exact ⟨rfl, fun j hj => by rw [List.mem_singleton] at hj; omega⟩
theorem okX_len {x : Cd} {N : Nat} (h : okX x N = true) : checkX x = 0 ∧ (N : Int) = x.data + x.par.length := by
  unfold okX at h
  rw [Bool.and_eq_true] at h
  exact ⟨of_decide_eq_true h.1, of_decide_eq_true h.2⟩
/-- What unitLosses leaves. -/
def UlRes (w : World) (z : Int) (l : List Nat) (e : Ending) (w' : World) : Prop :=
  ∃ F cf, e = .returned (.tuple #[.int .i64 z, .slice F l.length cf]) ∧ Sl w' w'.heap.size F 1 l.length ((nI l).map iv) ∧ Below w.heap.size w w'
set_option maxRecDepth 100000 in
set_option maxHeartbeats 1000000 in
theorem unitlosses_any (x : Cd) (A : Option Addr) (c : Nat) (w : World) (hT : Tabs w) (hx : CIn w x A) (hs9 : Sm9 x) (hs : List Bool) (D : Option Addr) (cd : Nat) (hl : hs.length ≤ 1000) (hD : Sl w w.heap.size D 1 hs.length (hs.map bl)) :
    Calls Tryz.prog 26 #[x.v A c, .slice D hs.length cd] w (UlRes w (leftZ (dcX x) (okX x hs.length) hs) (fatZ (dcX x) (okX x hs.length) hs)) := by
  obtain ⟨W, hW⟩ : ∃ W, W = w.alloc (.cells (x.cs A c).toArray 24) := ⟨_, rfl⟩
  have hbw : Below w.heap.size w W := by rw [hW]; exact below_new w _
  have HB := hideIt hbw
  have HBC := hideIt (show BC W w.heap.size x A c by rw [hW]; exact BC.new c hx)
  have HD := hideIt ((hD.below hbw).wide hbw.size)
  have HT := hideIt (hT.keep hbw)
  have HPB := hideIt (perBool_any x A c W HT.out HBC.out.cin hs9 hs.length D cd)
  have HWE := hideIt hW
  have hnot := not_b
  clear hbw hT hx hD hW
  cases hok : okX x hs.length with
  | false =>
    have HZ := hideIt (show leftZ (dcX x) false hs = -1 from if_neg (fun h => by cases h.1))
    have HF := hideIt (show fatZ (dcX x) false hs = [] from if_neg (fun h => by cases h.1))
    rw [hok] at HPB
    rw [HZ.out, HF.out]
    clear hok
    go_enter Tryz.func26, Tryz.ntmps26
    go_wp2_with (first
      | ((with_reducible refine at_load ?_); refine wpList_ldC (by kernel_rfl) (.tmp 2) rfl (p := w.heap.size) (c := c) rfl (by rw [← HWE.out]; exact HBC.out.box) ?_)
      | (go_at_call 40; rw [← HWE.out]; refine HPB.out.mono ?_; rintro e w1 ⟨rfl, hb1⟩; have HB1 := hideIt hb1; clear hb1 HPB))
    go_ret2
    exact ⟨none, 0, rfl, Sl.nil _ _ _ _, HB.out.trans (HB1.out.mono HB.out.size)⟩
  | true =>
    obtain ⟨m, n, hvc, hN, hN9⟩ := okX_vc hs9 hok
    rw [hok] at HPB
    have HLR := hideIt (losR_units (dcd_x hvc) (hs := hs) hN)
    have HLS := hideIt (fun (W2 : World) (h : Below W.heap.size W W2) (AP : Option Addr) (cp : Nat) (hPP : PP W2 W2.heap.size AP (prL hs)) (hc : (prL hs).length ≤ cp) => show Calls Tryz.prog 32 #[x.v A c, .slice D hs.length cd, .slice AP (prL hs).length cp] W2 (fun e w' => ∃ AF cF, e = .returned (.tuple #[.int .i64 (leftZ (dcX x) true hs), .slice AF (fatZ (dcX x) true hs).length cF]) ∧ Sl w' w'.heap.size AF 1 (fatZ (dcX x) true hs).length ((nI (fatZ (dcX x) true hs)).map iv) ∧ Below W2.heap.size W2 w') by
      have := losses_any x A c W2 (HT.out.keep h) (HBC.out.keep h).cin hvc hs hN D cd ((HD.out.below h).wide h.size) (prL hs) AP cp hPP (fun p hp => by have := (prF_mem hs _ hp).1; omega) (by have := prF_len hs hs.length; show (prF hs 0 hs.length).length ≤ 1000; omega) hc (fun p hp => (prF_mem hs _ hp).2)
      rw [HLR.out] at this
      exact this)
    clear hok hvc hN HLR HT
    generalize leftZ (dcX x) true hs = Z at *
    generalize fatZ (dcX x) true hs = FL at *
    go_enter Tryz.func26, Tryz.ntmps26
    go_wp2_with (first
      | ((with_reducible refine at_load ?_); refine wpList_ldC (by kernel_rfl) (.tmp 2) rfl (p := w.heap.size) (c := c) rfl (by rw [← HWE.out]; exact HBC.out.box) ?_)
      | (go_at_call 40; rw [← HWE.out]; refine HPB.out.mono ?_; rintro e w1 ⟨rfl, hb1⟩; have HB1 := hideIt hb1; clear hb1 HPB))
    have HJ0 := hideIt (RJ.nil w1 w1.heap.size)
    go_loopg [6, 15] hs.length (fun gk s6 s15 wr => ∃ k : Nat, k + gk = hs.length ∧ s15 = .int .i64 (k : Int) ∧ Aside (RJ wr w1.heap.size s6 (prF hs 0 k)) ∧ Aside (Below w1.heap.size w1 wr))
    case atStart => exact ⟨0, by omega, rfl, HJ0.out, Below.refl _ _⟩
    case round =>
      obtain ⟨k, hk, rfl, HJ, HL⟩ := hrel
      obtain ⟨w4, rfl⟩ : ∃ x, x = wr := ⟨wr, rfl⟩
      have HLW := hideIt (HB1.out.trans (HL.out.mono HB1.out.size))
      by_cases hlt : k < hs.length
      · have hinc := inc_c 3 k (by omega)
        have hki : (k : Int) < (hs.length : Int) := by omega
        obtain ⟨b2, o2, u2, hDe, hb2, hu2, hc2⟩ := (HD.out.below HLW.out).at_ hlt
        rw [List.getElem?_map, List.getElem?_eq_getElem hlt] at hu2
        injection hu2 with hu2
        subst hu2
        change w4.cell? ⟨b2, o2 + k, none⟩ = some (.bool hs[k]) at hc2
        have HNX := hideIt (prF_next hs k)
        rw [getD_lt hlt] at HNX
        have hpl := prF_len hs k
        generalize hs[k] = bb at *
        subst hDe
        clear hb2 hlt
        cases bb with
        | false =>
          rw [if_neg (by decide)] at HNX
          go_wp2_with fail
          go_roundg (gk - 1)
          case measure => omega
          case rel => exact ⟨k + 1, by omega, by go_num, by rw [HNX.out]; exact HJ.out, HL.out⟩
        | true =>
          rw [if_pos rfl] at HNX
          have hbl := below_new w4 (.cells #[.int .i64 (k : Int)] 3)
          obtain ⟨vs, hvs1, hvs2⟩ := HJ.out.keep hbl
          obtain ⟨pl, hpl2⟩ : ∃ l, l = prF hs 0 k := ⟨_, rfl⟩
          rw [← hpl2] at hvs1 hvs2 hpl HNX
          have HV1 := hideIt hvs1
          have HV2 := hideIt hvs2
          have HBK := hideIt (Blk.new w4 3 [.int .i64 (k : Int)])
          have HSZ := hideIt (Nat.le_trans HL.out.size hbl.size)
          obtain ⟨A3, c3, hv3, _, _⟩ := own_form hvs1
          subst hv3
          have HBL := hideIt hbl
          have HS1 := hideIt (show (w4.alloc (.cells #[.int .i64 (k : Int)] 3)).heap.size = w4.heap.size + 1 by simp)
          clear hvs1 hvs2 hbl hpl2 HJ
          go_wp2_with ((with_reducible refine at_append ?_); refine wpList_apR (A := some ⟨w4.heap.size, 0, none⟩) (k := 1) (c := 1) (n := pl.length) (us := vs) rfl (.tmp 21) (.tmp 24) rfl rfl HV1.out (by show Value.slice (some ⟨w4.heap.size + 1, 0, none⟩) 1 1 = Value.slice (some ⟨(w4.alloc (.cells #[.int .i64 (k : Int)] 3)).heap.size, 0, none⟩) 1 1; rw [HS1.out]) (by omega) HSZ.out ?_; intro v8 w8 HO8 HG8 HA8 HB8)
          go_roundg (gk - 1)
          case measure => omega
          case rel =>
            refine ⟨k + 1, by omega, by go_num, ?_, HL.out.trans ((HBL.out.mono HL.out.size).trans HB8.out)⟩
            rw [HNX.out]
            exact RJ.snoc (b := [k]) HV2.out HV1.out HBK.out rfl HO8.out HG8.out
      · have hki : ¬ (k : Int) < (hs.length : Int) := by omega
        obtain rfl : k = hs.length := by omega
        obtain ⟨AP, cp, hve, hcp, hpp⟩ := HJ.out.pp
        subst hve
        have HL2 := hideIt (HLS.out w4 HLW.out AP cp hpp hcp)
        have HBX4 := hideIt (HBC.out.keep HLW.out).box
        clear hpp hcp HLS HJ
        go_wp2_with (first
          | ((with_reducible refine at_load ?_); refine wpList_ldC (by kernel_rfl) (.tmp 2) rfl (p := w.heap.size) (c := c) rfl HBX4.out ?_)
          | (go_at_call 32; refine HL2.out.mono ?_; rintro e w9 ⟨AF, cF, rfl, hsF, hbF⟩; have HSF := hideIt hsF; have HBF := hideIt hbF; clear hsF hbF))
        go_ret2
        exact ⟨AF, cF, rfl, HSF.out, HB.out.trans ((HLW.out.trans (HBF.out.mono HLW.out.size)).mono HB.out.size)⟩
end Go.Proofs.YtkfahoaiialndaaGreatDoor
