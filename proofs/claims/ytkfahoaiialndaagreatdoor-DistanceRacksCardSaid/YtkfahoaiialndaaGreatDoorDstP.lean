/-
  The program's Left, Fatal, Racks and Losses, walked: its four functions by contract (pg).
-/
import Derived.Test.YtkfahoaiialndaaGreatDoorDstL
import Derived.Test.YtkfahoaiialndaaGreatDoorDstPa
namespace Go.Proofs.YtkfahoaiialndaaGreatDoor
open Go.RowKit Go.Shelf
set_option linter.unusedVariables false
set_option linter.unusedSimpArgs false

set_option maxRecDepth 100000 in
theorem left_any (x : Cd) (A : Option Addr) (c : Nat) (w : World) (hT : Tabs w) (hx : CIn w x A) (hs9 : Sm9 x) (hs : List Bool) (D : Option Addr) (cd : Nat) (hl : hs.length ≤ 1000) (hD : Sl w w.heap.size D 1 hs.length (hs.map bl)) :
    Calls Tryz.prog 13 #[x.v A c, .slice D hs.length cd] w fun e w' => e = .returned (.int .i64 (leftZ (dcX x) (okX x hs.length) hs)) ∧ Below w.heap.size w w' := by
  obtain ⟨W, hW⟩ : ∃ W, W = w.alloc (.cells (x.cs A c).toArray 24) := ⟨_, rfl⟩
  have hbw : Below w.heap.size w W := by rw [hW]; exact below_new w _
  have HB := hideIt hbw
  have HBC := hideIt (show BC W w.heap.size x A c by rw [hW]; exact BC.new c hx)
  have HU := hideIt (unitlosses_any x A c W (hT.keep hbw) HBC.out.cin hs9 hs D cd hl ((hD.below hbw).wide hbw.size))
  have HWE := hideIt hW
  clear hbw hT hx hD hW
  generalize leftZ (dcX x) (okX x hs.length) hs = Z at *
  generalize fatZ (dcX x) (okX x hs.length) hs = FL at *
  go_enter Tryz.func13, Tryz.ntmps13
  go_wp2_with (first
    | ((with_reducible refine at_load ?_); refine wpList_ldC (by kernel_rfl) (.tmp 2) rfl (p := w.heap.size) (c := c) rfl (by rw [← HWE.out]; exact HBC.out.box) ?_)
    | (go_at_call 26; rw [← HWE.out]; refine HU.out.mono ?_; rintro e w1 ⟨F, cf, rfl, hs1, hb1⟩; have HB1 := hideIt hb1; clear hb1 HU hs1))
  go_ret
  exact ⟨rfl, HB.out.trans (HB1.out.mono HB.out.size)⟩
set_option maxRecDepth 100000 in
theorem fatal9_any (x : Cd) (A : Option Addr) (c : Nat) (w : World) (hT : Tabs w) (hx : CIn w x A) (hs9 : Sm9 x) (hs : List Bool) (D : Option Addr) (cd : Nat) (hl : hs.length ≤ 1000) (hD : Sl w w.heap.size D 1 hs.length (hs.map bl)) :
    Calls Tryz.prog 16 #[x.v A c, .slice D hs.length cd] w (RdRes w (fatZ (dcX x) (okX x hs.length) hs)) := by
  obtain ⟨W, hW⟩ : ∃ W, W = w.alloc (.cells (x.cs A c).toArray 24) := ⟨_, rfl⟩
  have hbw : Below w.heap.size w W := by rw [hW]; exact below_new w _
  have HB := hideIt hbw
  have HBC := hideIt (show BC W w.heap.size x A c by rw [hW]; exact BC.new c hx)
  have HU := hideIt (unitlosses_any x A c W (hT.keep hbw) HBC.out.cin hs9 hs D cd hl ((hD.below hbw).wide hbw.size))
  have HWE := hideIt hW
  clear hbw hT hx hD hW
  generalize leftZ (dcX x) (okX x hs.length) hs = Z at *
  generalize fatZ (dcX x) (okX x hs.length) hs = FL at *
  go_enter Tryz.func16, Tryz.ntmps16
  go_wp2_with (first
    | ((with_reducible refine at_load ?_); refine wpList_ldC (by kernel_rfl) (.tmp 2) rfl (p := w.heap.size) (c := c) rfl (by rw [← HWE.out]; exact HBC.out.box) ?_)
    | (go_at_call 26; rw [← HWE.out]; refine HU.out.mono ?_; rintro e w1 ⟨F, cf, rfl, hs1, hb1⟩; have HB1 := hideIt hb1; have HS1 := hideIt hs1; clear hb1 HU hs1))
  go_ret
  exact ⟨F, cf, rfl, HS1.out, HB.out.trans (HB1.out.mono HB.out.size)⟩
/-- The width, or 0. -/
theorem wC_nat {x : Cd} (hs9 : Sm9 x) : ∃ N : Nat, wC x = (N : Int) ∧ N ≤ 100 ∧ leftZ (dcX x) (okX x N) (List.replicate N true) = leftZ (dcX x) (okX x (wdN x)) (List.replicate (wdN x) true) := by
  by_cases h : checkX x = 0
  · have hv := check_vC hs9 h
    obtain ⟨m, n, hvc⟩ := vC_spec hv
    have hb := vC_bounds hv
    have hw : wC x = x.data + x.par.length := if_pos hv
    refine ⟨wdN x, ?_, ?_, rfl⟩
    · rw [hw]; unfold wdN; have := hs9.lo; omega
    · unfold wdN; have := hs9.lo; omega
  · have hf : ∀ N, okX x N = false := fun N => by unfold okX; rw [decide_eq_false h, Bool.false_and]
    have hz : ∀ N hs, leftZ (dcX x) (okX x N) hs = -1 := fun N hs => by rw [hf]; exact if_neg (fun h => by cases h.1)
    by_cases hv : vC x = true
    · have hb := vC_bounds hv
      refine ⟨(x.data + x.par.length).toNat, ?_, by omega, (hz _ _).trans (hz _ _).symm⟩
      rw [show wC x = x.data + x.par.length from if_pos hv]; omega
    · exact ⟨0, if_neg hv, by omega, (hz _ _).trans (hz _ _).symm⟩
set_option maxRecDepth 100000 in
theorem losses9_any (x : Cd) (A : Option Addr) (c : Nat) (w : World) (hT : Tabs w) (hx : CIn w x A) (hs9 : Sm9 x) :
    Calls Tryz.prog 11 #[x.v A c] w fun e w' => e = .returned (.int .i64 (leftZ (dcX x) (okX x (wdN x)) (List.replicate (wdN x) true))) ∧ Below w.heap.size w w' := by
  obtain ⟨N, hwc, hN, hz⟩ := wC_nat hs9
  rw [← hz]
  obtain ⟨W, hW⟩ : ∃ W, W = w.alloc (.cells (x.cs A c).toArray 24) := ⟨_, rfl⟩
  have hbw : Below w.heap.size w W := by rw [hW]; exact below_new w _
  have HB := hideIt hbw
  have HBC := hideIt (show BC W w.heap.size x A c by rw [hW]; exact BC.new c hx)
  have HT := hideIt (hT.keep hbw)
  have HAL := hideIt (fun (W2 : World) (h : Below W.heap.size W W2) => allunits_any x A c W2 (HT.out.keep h) (HBC.out.keep h).cin N hwc hN)
  have HLF := hideIt (fun (W2 : World) (h : Below W.heap.size W W2) (g : Nat) (hg : Blk W2 g 4 ((List.replicate N true).map bl)) => show Calls Tryz.prog 13 #[x.v A c, .slice (some ⟨g, 0, none⟩) N N] W2 (fun e w' => e = .returned (.int .i64 (leftZ (dcX x) (okX x N) (List.replicate N true))) ∧ Below W2.heap.size W2 w') by
    have hl : (List.replicate N true).length = N := List.length_replicate
    have := left_any x A c W2 (HT.out.keep h) (HBC.out.keep h).cin hs9 (List.replicate N true) (some ⟨g, 0, none⟩) N (by omega) (sl_blk9 hg (by rw [List.length_map]))
    rw [hl] at this
    exact this)
  have HBX := hideIt HBC.out.box
  have HWE := hideIt hW
  clear hbw hT hx hW hwc hz
  generalize leftZ (dcX x) (okX x N) (List.replicate N true) = Z at *
  go_enter Tryz.func11, Tryz.ntmps11
  go_wp2_with fail
  rw [← HWE.out]
  refine loads_begin_n 5 [(3, fun W => Blk W w.heap.size 24 (x.cs A c)), (2, fun W => Blk W w.heap.size 24 (x.cs A c))] rfl (by kernel_rfl) ?_
  try simp only [Act.put]
  try simp only [List.setIfInBounds_toArray]
  try simp only [List.set_cons_succ]
  try simp only [List.set_cons_zero]
  refine wpAnyL_take (oi := ⟨some 3, _, _, _, _, _⟩) 0 3 (x.v A c) _ rfl (by kernel_rfl) (by kernel_rfl) (by kernel_rfl) (by kernel_rfl) (by kernel_rfl) (by kernel_rfl) (.head _) (fun _ _ _ h => h) (by kernel_rfl) (fun W' hW' => exec_load_blk (cs := x.cs A c) rfl rfl hW' _ Tryz.underlying24 rfl isz5) (Hooks.add HBX.out (Hooks.add HBX.out (Hooks.nil _ _))) ?_
  try simp only [Act.put]
  try simp only [List.setIfInBounds_toArray]
  try simp only [List.set_cons_succ]
  try simp only [List.set_cons_zero]
  refine wpAnyL_take (oi := ⟨some 4, _, _, _, _, _⟩) 1 2 (x.v A c) _ rfl (by kernel_rfl) (by kernel_rfl) (by kernel_rfl) (by kernel_rfl) (by kernel_rfl) (by kernel_rfl) (.tail _ (.head _)) (fun _ _ _ h => h) (by kernel_rfl) (fun W' hW' => exec_load_blk (cs := x.cs A c) rfl rfl hW' _ Tryz.underlying24 rfl isz5) (Hooks.add HBX.out (Hooks.add HBX.out (Hooks.nil _ _))) ?_
  try simp only [Act.put]
  try simp only [List.setIfInBounds_toArray]
  try simp only [List.set_cons_succ]
  try simp only [List.set_cons_zero]
  refine wpAnyL_one (o := ⟨some 5, _, _, _, _, _⟩) 2 (by kernel_rfl) rfl (fun K hK => ?_)
  go_wp2_with (first
    | (go_at_call 24; refine (HAL.out _ (Below.refl W.heap.size W).drew).mono ?_; rintro e w5 ⟨g, rfl, _, hg, hb5⟩))
  have hb45 : Below W.heap.size W w5 := (Below.refl W.heap.size W).drew.trans hb5
  have HL5 := hideIt hb45
  have HG5 := hideIt hg
  have HBX5 := hideIt (HBC.out.keep hb45).box
  refine hK _ _ (Hooks.add HBX5.out (Hooks.skip (by kernel_rfl) (Hooks.nil _ _))) ?_
  clear hK K hg hb5 hb45 HBX HAL
  try simp only [Act.put]
  try simp only [List.setIfInBounds_toArray]
  try simp only [List.set_cons_succ]
  try simp only [List.set_cons_zero]
  refine wpAnyL_one (o := ⟨some 6, _, _, _, _, _⟩) 3 (by kernel_rfl) rfl (fun K hK => ?_)
  go_wp2_with (first
    | (go_at_call 13; refine (HLF.out _ HL5.out g HG5.out).mono ?_; rintro e w6 ⟨rfl, hb6⟩))
  have HL6 := hideIt (HL5.out.trans (hb6.mono HL5.out.size))
  refine hK _ _ (Hooks.skip (by kernel_rfl) (Hooks.skip (by kernel_rfl) (Hooks.nil _ _))) ?_
  clear hK K hb6 HLF HBX5
  try simp only [Act.put]
  try simp only [List.setIfInBounds_toArray]
  try simp only [List.set_cons_succ]
  try simp only [List.set_cons_zero]
  refine loads_tail 4 (by kernel_rfl) (by kernel_rfl) (by kernel_rfl) (by kernel_rfl) ?_
  simp only [List.drop_succ_cons, List.drop_zero]
  go_wp2_with fail
  go_ret
  exact ⟨rfl, HB.out.trans (HL6.out.mono HB.out.size)⟩
set_option maxHeartbeats 1000000 in
set_option maxRecDepth 100000 in
theorem racks9_any (x : Cd) (A : Option Addr) (c : Nat) (w : World) (hT : Tabs w) (hx : CIn w x A) (hs9 : Sm9 x) (rs : List Int) (R : Option Addr) (cr : Nat) (hl : rs.length ≤ 1000) (hR : Sl w w.heap.size R 1 rs.length (rs.map iv)) :
    Calls Tryz.prog 18 #[x.v A c, .slice R rs.length cr] w fun e w' => e = .returned (.int .i64 (racksZ (dcX x) (okX x rs.length) rs)) ∧ Below w.heap.size w w' := by
  obtain ⟨W, hW⟩ : ∃ W, W = w.alloc (.cells (x.cs A c).toArray 24) := ⟨_, rfl⟩
  have hbw : Below w.heap.size w W := by rw [hW]; exact below_new w _
  have HB := hideIt hbw
  have HBC := hideIt (show BC W w.heap.size x A c by rw [hW]; exact BC.new c hx)
  have HR := hideIt ((hR.below hbw).wide hbw.size)
  have HT := hideIt (hT.keep hbw)
  have HPB := hideIt (perInt_any x A c W HT.out HBC.out.cin hs9 rs.length R cr)
  have HWE := hideIt hW
  have hnot := not_b
  clear hbw hT hx hR hW
  cases hok : okX x rs.length with
  | false =>
    have HZ := hideIt (show racksZ (dcX x) false rs = -1 from rfl)
    rw [hok] at HPB
    rw [HZ.out]
    clear hok
    go_enter Tryz.func18, Tryz.ntmps18
    go_wp2_with (first
      | ((with_reducible refine at_load ?_); refine wpList_ldC (by kernel_rfl) (.tmp 2) rfl (p := w.heap.size) (c := c) rfl (by rw [← HWE.out]; exact HBC.out.box) ?_)
      | (go_at_call 31; rw [← HWE.out]; refine HPB.out.mono ?_; rintro e w1 ⟨rfl, hb1⟩; have HB1 := hideIt hb1; clear hb1 HPB))
    go_ret
    exact ⟨rfl, HB.out.trans (HB1.out.mono HB.out.size)⟩
  | true =>
    obtain ⟨m, n, hvc, hN, hN9⟩ := okX_vc hs9 hok
    obtain ⟨hck, hNi⟩ := okX_len hok
    rw [hok] at HPB
    have hpos : 0 < rs.length := by have := hvc.pos; omega
    have hwc : wC x = (rs.length : Int) := by rw [show wC x = x.data + x.par.length from if_pos (check_vC hs9 hck), hNi]
    have hns := nmS_facts rs
    obtain ⟨ps, hps⟩ : ∃ ps, ps = (nmS rs).map (rkS rs) := ⟨_, rfl⟩
    have HPM := hideIt (show ∀ p ∈ ps, (0 < p.length ∧ p.length ≤ 1000) ∧ ∀ i ∈ p, i < rs.length by
      intro p hp
      rw [hps] at hp
      obtain ⟨r, hr, rfl⟩ := List.mem_map.1 hp
      refine ⟨⟨?_, ?_⟩, fun i hi => ((rkS_mem rs r i).1 hi).1⟩
      · obtain ⟨i, hi, he⟩ := List.getElem_of_mem ((hns.2.1 r).1 hr)
        exact List.length_pos_of_mem ((rkS_mem rs r i).2 ⟨hi, by rw [getD_lt hi]; exact he⟩)
      · have := List.length_filter_le (fun u => decide (rs.getD u 0 = r)) (List.range rs.length)
        rw [List.length_range] at this
        exact Nat.le_trans this hl)
    have hpl : ps.length ≤ 1000 := by rw [hps, List.length_map]; omega
    have HLR := hideIt (show (losR (dcX x) (List.replicate rs.length true) ps 5 0).1 = racksZ (dcX x) true rs by
      rw [hps, hN]
      have h := losR_racks (dcd_x hvc) (racks := rs) (names := nmS rs) hN (dcX_all hvc) hns.1 hns.2.1
      exact h)
    have HAL := hideIt (fun (W2 : World) (h : Below W.heap.size W W2) => allunits_any x A c W2 (HT.out.keep h) (HBC.out.keep h).cin rs.length hwc (by omega))
    have HBR := hideIt (fun (W2 : World) (h : Below W.heap.size W W2) => show Calls Tryz.prog 33 #[.slice R rs.length cr] W2 (fun e w' => ∃ v, e = .returned v ∧ RJ w' W2.heap.size v ps ∧ Below W2.heap.size W2 w') by
      rw [hps]
      exact byrack_any rs hpos hl R cr W2 ((HR.out.below h).wide h.size))
    have HLS := hideIt (fun (W2 : World) (h : Below W.heap.size W W2) (g : Nat) (hg : Blk W2 g 4 ((List.replicate rs.length true).map bl)) (AP : Option Addr) (cp : Nat) (hPP : PP W2 W2.heap.size AP ps) (hc : ps.length ≤ cp) => show Calls Tryz.prog 32 #[x.v A c, .slice (some ⟨g, 0, none⟩) rs.length rs.length, .slice AP ps.length cp] W2 (fun e w' => ∃ u, e = .returned (.tuple #[.int .i64 (racksZ (dcX x) true rs), u]) ∧ Below W2.heap.size W2 w') by
      have hll : (List.replicate rs.length true).length = rs.length := List.length_replicate
      have := losses_any x A c W2 (HT.out.keep h) (HBC.out.keep h).cin hvc (List.replicate rs.length true) (by rw [hll]; exact hN) (some ⟨g, 0, none⟩) rs.length (sl_blk9 hg (by rw [List.length_map])) ps AP cp hPP (fun p hp => (HPM.out p hp).1) hpl hc (fun p hp i hi => by rw [hll]; exact (HPM.out p hp).2 i hi)
      rw [HLR.out, hll] at this
      refine this.mono ?_
      rintro e w' ⟨AF, cF, rfl, _, hb⟩
      exact ⟨_, rfl, hb⟩)
    have HBX0 := hideIt (fun (W2 : World) (h : Below W.heap.size W W2) => (HBC.out.keep h).box)
    clear hok hvc hN hNi hck hwc hns hps hpl HLR HPM HT
    generalize racksZ (dcX x) true rs = Z at *
    go_enter Tryz.func18, Tryz.ntmps18
    go_wp2_with (first
      | ((with_reducible refine at_load ?_); refine wpList_ldC (by kernel_rfl) (.tmp 2) rfl (p := w.heap.size) (c := c) rfl (by rw [← HWE.out]; exact HBC.out.box) ?_)
      | (go_at_call 31; rw [← HWE.out]; refine HPB.out.mono ?_; rintro e w1 ⟨rfl, hb1⟩; have HB1 := hideIt hb1; clear hb1 HPB))
    have HBX := hideIt (HBX0.out w1 HB1.out)
    refine loads_begin_n 11 [(5, fun W => Blk W w.heap.size 24 (x.cs A c)), (2, fun W => Blk W w.heap.size 24 (x.cs A c))] rfl (by kernel_rfl) ?_
    try simp only [Act.put]
    try simp only [List.setIfInBounds_toArray]
    try simp only [List.set_cons_succ]
    try simp only [List.set_cons_zero]
    refine wpAnyL_take (oi := ⟨some 12, _, _, _, _, _⟩) 0 5 (x.v A c) _ rfl (by kernel_rfl) (by kernel_rfl) (by kernel_rfl) (by kernel_rfl) (by kernel_rfl) (by kernel_rfl) (.head _) (fun _ _ _ h => h) (by kernel_rfl) (fun W' hW' => exec_load_blk (cs := x.cs A c) rfl rfl hW' _ Tryz.underlying24 rfl isz5) (Hooks.add HBX.out (Hooks.add HBX.out (Hooks.nil _ _))) ?_
    try simp only [Act.put]
    try simp only [List.setIfInBounds_toArray]
    try simp only [List.set_cons_succ]
    try simp only [List.set_cons_zero]
    refine wpAnyL_take (oi := ⟨some 13, _, _, _, _, _⟩) 1 2 (x.v A c) _ rfl (by kernel_rfl) (by kernel_rfl) (by kernel_rfl) (by kernel_rfl) (by kernel_rfl) (by kernel_rfl) (.tail _ (.head _)) (fun _ _ _ h => h) (by kernel_rfl) (fun W' hW' => exec_load_blk (cs := x.cs A c) rfl rfl hW' _ Tryz.underlying24 rfl isz5) (Hooks.add HBX.out (Hooks.add HBX.out (Hooks.nil _ _))) ?_
    try simp only [Act.put]
    try simp only [List.setIfInBounds_toArray]
    try simp only [List.set_cons_succ]
    try simp only [List.set_cons_zero]
    refine wpAnyL_move (oi := ⟨some 15, _, _, _, _, _⟩) 3 ?_ rfl (by kernel_rfl) (by kernel_rfl) (by kernel_rfl) (by kernel_rfl) (fun _ _ _ h => h) (by kernel_rfl) ?_ ((Hooks.add HBX.out (Hooks.add HBX.out (Hooks.nil _ _)))) ?_
    rotate_left
    · intro W'; go_simp; first | done | with_reducible rfl
    try simp only [Act.put]
    try simp only [List.setIfInBounds_toArray]
    try simp only [List.set_cons_succ]
    try simp only [List.set_cons_zero]
    refine wpAnyL_one (o := ⟨some 14, _, _, _, _, _⟩) 2 (by kernel_rfl) rfl (fun K hK => ?_)
    go_wp2_with (first
      | (go_at_call 24; refine (HAL.out _ HB1.out.drew).mono ?_; rintro e w5 ⟨g, rfl, _, hg, hb5⟩))
    have hb45 : Below W.heap.size W w5 := HB1.out.drew.trans (hb5.mono HB1.out.drew.size)
    have HL5 := hideIt hb45
    have HG5 := hideIt hg
    refine hK _ _ (Hooks.add (HBX0.out w5 HL5.out) (Hooks.skip (by kernel_rfl) (Hooks.nil _ _))) ?_
    clear hK K hg hb5 hb45 HBX HAL
    try simp only [Act.put]
    try simp only [List.setIfInBounds_toArray]
    try simp only [List.set_cons_succ]
    try simp only [List.set_cons_zero]
    refine wpAnyL_one (o := ⟨some 16, _, _, _, _, _⟩) 4 (by kernel_rfl) rfl (fun K hK => ?_)
    go_wp2_with (first
      | (go_at_call 33; refine (HBR.out _ HL5.out).mono ?_; rintro e w6 ⟨v6, rfl, hj6, hb6⟩))
    obtain ⟨AP, cp, hve, hcp, hpp⟩ := hj6.pp
    subst hve
    have HL6 := hideIt (HL5.out.trans (hb6.mono HL5.out.size))
    have HG6 := hideIt (HG5.out.kept hb6 HG5.out.lt)
    have HLS6 := hideIt (HLS.out w6 HL6.out g HG6.out AP cp hpp hcp)
    refine hK _ _ (Hooks.add (HBX0.out w6 HL6.out) (Hooks.skip (by kernel_rfl) (Hooks.nil _ _))) ?_
    clear hK K hb6 hj6 hcp hpp HBR HLS
    try simp only [Act.put]
    try simp only [List.setIfInBounds_toArray]
    try simp only [List.set_cons_succ]
    try simp only [List.set_cons_zero]
    refine wpAnyL_one (o := ⟨some 17, _, _, _, _, _⟩) 5 (by kernel_rfl) rfl (fun K hK => ?_)
    go_wp2_with (first
      | (go_at_call 32; refine HLS6.out.mono ?_; rintro e w7 ⟨u7, rfl, hb7⟩))
    have HL7 := hideIt (HL6.out.trans (hb7.mono HL6.out.size))
    refine hK _ _ (Hooks.skip (by kernel_rfl) (Hooks.skip (by kernel_rfl) (Hooks.nil _ _))) ?_
    clear hK K hb7 HLS6 HBX0
    try simp only [Act.put]
    try simp only [List.setIfInBounds_toArray]
    try simp only [List.set_cons_succ]
    try simp only [List.set_cons_zero]
    refine wpAnyL_move (oi := ⟨some 11, _, _, _, _, _⟩) 6 ?_ rfl (by kernel_rfl) (by kernel_rfl) (by kernel_rfl) (by kernel_rfl) (fun _ _ _ h => h) (by kernel_rfl) ?_ ((Hooks.skip (by kernel_rfl) (Hooks.skip (by kernel_rfl) (Hooks.nil _ _)))) ?_
    rotate_left
    · intro W'; go_simp; first | done | with_reducible rfl
    try simp only [Act.put]
    try simp only [List.setIfInBounds_toArray]
    try simp only [List.set_cons_succ]
    try simp only [List.set_cons_zero]
    refine wpAnyL_move (oi := ⟨some 18, _, _, _, _, _⟩) 7 ?_ rfl (by kernel_rfl) (by kernel_rfl) (by kernel_rfl) (by kernel_rfl) (fun _ _ _ h => h) (by kernel_rfl) ?_ ((Hooks.skip (by kernel_rfl) (Hooks.skip (by kernel_rfl) (Hooks.nil _ _)))) ?_
    rotate_left
    · intro W'; go_simp; first | done | with_reducible rfl
    try simp only [Act.put]
    try simp only [List.setIfInBounds_toArray]
    try simp only [List.set_cons_succ]
    try simp only [List.set_cons_zero]
    refine wpAnyL_move (oi := ⟨some 19, _, _, _, _, _⟩) 8 ?_ rfl (by kernel_rfl) (by kernel_rfl) (by kernel_rfl) (by kernel_rfl) (fun _ _ _ h => h) (by kernel_rfl) ?_ ((Hooks.skip (by kernel_rfl) (Hooks.skip (by kernel_rfl) (Hooks.nil _ _)))) ?_
    rotate_left
    · intro W'; go_simp; first | done | with_reducible rfl
    try simp only [Act.put]
    try simp only [List.setIfInBounds_toArray]
    try simp only [List.set_cons_succ]
    try simp only [List.set_cons_zero]
    refine loads_tail 9 (by kernel_rfl) (by kernel_rfl) (by kernel_rfl) (by kernel_rfl) ?_
    simp only [List.drop_succ_cons, List.drop_zero]
    go_wp2_with fail
    go_ret
    exact ⟨rfl, HB.out.trans (HL7.out.mono HB.out.size)⟩
theorem pg : Pg where
  losses := fun x A c w hT hx _ hs9 => losses9_any x A c w hT hx hs9
  left := fun x A c w hT hx _ hs9 hs D cd hl hD => left_any x A c w hT hx hs9 hs D cd hl hD
  fatal := fun x A c w hT hx _ hs9 hs D cd hl hD => fatal9_any x A c w hT hx hs9 hs D cd hl hD
  racks := fun x A c w hT hx _ hs9 rs R cr hl hR => racks9_any x A c w hT hx hs9 rs R cr hl hR
end Go.Proofs.YtkfahoaiialndaaGreatDoor
