/-
  The program's small functions, walked: isPerUnit, allUnits.
-/
import Derived.Test.YtkfahoaiialndaaGreatDoorD9a
import Derived.Test.YtkfahoaiialndaaGreatDoorD9b
import Derived.Test.YtkfahoaiialndaaGreatDoorD9c
import Derived.Test.YtkfahoaiialndaaGreatDoorD9d
import Derived.Test.YtkfahoaiialndaaGreatDoorD9f
import Derived.Test.YtkfahoaiialndaaGreatDoorD9h
import Derived.Test.YtkfahoaiialndaaGreatDoorDstA
import Derived.Test.YtkfahoaiialndaaGreatDoorDstB
import Derived.Test.YtkfahoaiialndaaGreatDoorDstR
import Derived.Test.YtkfahoaiialndaaGreatDoorDstS
import Derived.Test.YtkfahoaiialndaaGreatDoorDstM
import Derived.Test.YtkfahoaiialndaaGreatDoorDstG
import Derived.Test.YtkfahoaiialndaaGreatDoorDstI
import Derived.Test.YtkfahoaiialndaaGreatDoorDstF
namespace Go.Proofs.YtkfahoaiialndaaGreatDoor
open Go.RowKit
set_option linter.unusedVariables false
set_option linter.unusedSimpArgs false


set_option maxHeartbeats 1000000 in
theorem perBool_any (x : Cd) (A : Option Addr) (c : Nat) (w : World) (hT : Tabs w) (hx : CIn w x A) (hs9 : Sm9 x) (n : Nat) (D : Option Addr) (cd : Nat) :
    Calls Tryz.prog 40 #[x.v A c, .slice D n cd] w fun e w' => e = .returned (.bool (okX x n)) ∧ Below w.heap.size w w' := by
  obtain ⟨W, hW⟩ : ∃ W, W = w.alloc (.cells (x.cs A c).toArray 24) := ⟨_, rfl⟩
  have hbw : Below w.heap.size w W := by rw [hW]; exact below_new w _
  have HB := hideIt hbw
  have HBC := hideIt (show BC W w.heap.size x A c by rw [hW]; exact BC.new c hx)
  have HV := hideIt (show Calls Tryz.prog 45 #[x.v A c] W fun e w' => e = .returned (.int .i64 (checkX x)) ∧ Below W.heap.size W w' from check_any x A c W HBC.out.cin)
  have HWD := hideIt (fun (W2 : World) (h : Below W.heap.size W W2) => width_any x A c W2 ((hT.keep hbw).keep h) (HBC.out.keep h).cin)
  have hq0 := i_eql 58 .i64 (checkX x) 0
  have HWE := hideIt hW
  have HOK := hideIt (show okX x n = (decide (checkX x = 0) && decide ((n : Int) = x.data + x.par.length)) from rfl)
  have HVC := hideIt (fun h : checkX x = 0 => show wC x = x.data + x.par.length by unfold wC; rw [if_pos (check_vC hs9 h)])
  have hq1 := i_eql 3 .i64 (n : Int) (wC x)
  clear hbw hx hW hs9 hT
  by_cases h0 : checkX x = 0
  · rw [decide_eq_true h0, ← HVC.out h0, Bool.true_and] at HOK
    rw [decide_eq_true h0] at hq0
    rw [← HOK.out] at hq1
    clear h0 HVC HOK
    generalize okX x n = r at *
    generalize checkX x = ec at *
    generalize wC x = z at *
    go_enter Tryz.func40, Tryz.ntmps40
    go_wp2_with (first
      | ((with_reducible refine at_load ?_); refine wpList_ldC (by kernel_rfl) (.tmp 2) rfl (p := w.heap.size) (c := c) rfl (by first | exact HBX1.out | (rw [← HWE.out]; exact HBC.out.box)) ?_)
      | (go_at_call 45; rw [← HWE.out]; refine HV.out.mono ?_; rintro e w1 ⟨rfl, hb1⟩; have HB1 := hideIt hb1; have HBX1 := hideIt (HBC.out.keep hb1).box; clear hb1 HV)
      | (go_at_call 39; refine (HWD.out _ HB1.out).mono ?_; rintro e w2 ⟨rfl, hb2⟩; have HB2 := hideIt (HB1.out.trans (hb2.mono HB1.out.size)); clear hb2 HWD))
    go_ret
    exact ⟨rfl, HB.out.trans (HB2.out.mono HB.out.size)⟩
  · rw [decide_eq_false h0, Bool.false_and] at HOK
    rw [decide_eq_false h0] at hq0
    clear h0 HVC hq1
    generalize checkX x = ec at *
    go_enter Tryz.func40, Tryz.ntmps40
    go_wp2_with (first
      | ((with_reducible refine at_load ?_); refine wpList_ldC (by kernel_rfl) (.tmp 2) rfl (p := w.heap.size) (c := c) rfl (by rw [← HWE.out]; exact HBC.out.box) ?_)
      | (go_at_call 45; rw [← HWE.out]; refine HV.out.mono ?_; rintro e w1 ⟨rfl, hb1⟩; have HB1 := hideIt hb1; clear hb1 HV))
    go_ret
    exact ⟨by rw [HOK.out]; rfl, HB.out.trans (HB1.out.mono HB.out.size)⟩

set_option maxHeartbeats 1000000 in
theorem perInt_any (x : Cd) (A : Option Addr) (c : Nat) (w : World) (hT : Tabs w) (hx : CIn w x A) (hs9 : Sm9 x) (n : Nat) (D : Option Addr) (cd : Nat) :
    Calls Tryz.prog 31 #[x.v A c, .slice D n cd] w fun e w' => e = .returned (.bool (okX x n)) ∧ Below w.heap.size w w' := by
  obtain ⟨W, hW⟩ : ∃ W, W = w.alloc (.cells (x.cs A c).toArray 24) := ⟨_, rfl⟩
  have hbw : Below w.heap.size w W := by rw [hW]; exact below_new w _
  have HB := hideIt hbw
  have HBC := hideIt (show BC W w.heap.size x A c by rw [hW]; exact BC.new c hx)
  have HV := hideIt (show Calls Tryz.prog 45 #[x.v A c] W fun e w' => e = .returned (.int .i64 (checkX x)) ∧ Below W.heap.size W w' from check_any x A c W HBC.out.cin)
  have HWD := hideIt (fun (W2 : World) (h : Below W.heap.size W W2) => width_any x A c W2 ((hT.keep hbw).keep h) (HBC.out.keep h).cin)
  have hq0 := i_eql 58 .i64 (checkX x) 0
  have HWE := hideIt hW
  have HOK := hideIt (show okX x n = (decide (checkX x = 0) && decide ((n : Int) = x.data + x.par.length)) from rfl)
  have HVC := hideIt (fun h : checkX x = 0 => show wC x = x.data + x.par.length by unfold wC; rw [if_pos (check_vC hs9 h)])
  have hq1 := i_eql 3 .i64 (n : Int) (wC x)
  clear hbw hx hW hs9 hT
  by_cases h0 : checkX x = 0
  · rw [decide_eq_true h0, ← HVC.out h0, Bool.true_and] at HOK
    rw [decide_eq_true h0] at hq0
    rw [← HOK.out] at hq1
    clear h0 HVC HOK
    generalize okX x n = r at *
    generalize checkX x = ec at *
    generalize wC x = z at *
    go_enter Tryz.func31, Tryz.ntmps31
    go_wp2_with (first
      | ((with_reducible refine at_load ?_); refine wpList_ldC (by kernel_rfl) (.tmp 2) rfl (p := w.heap.size) (c := c) rfl (by first | exact HBX1.out | (rw [← HWE.out]; exact HBC.out.box)) ?_)
      | (go_at_call 45; rw [← HWE.out]; refine HV.out.mono ?_; rintro e w1 ⟨rfl, hb1⟩; have HB1 := hideIt hb1; have HBX1 := hideIt (HBC.out.keep hb1).box; clear hb1 HV)
      | (go_at_call 39; refine (HWD.out _ HB1.out).mono ?_; rintro e w2 ⟨rfl, hb2⟩; have HB2 := hideIt (HB1.out.trans (hb2.mono HB1.out.size)); clear hb2 HWD))
    go_ret
    exact ⟨rfl, HB.out.trans (HB2.out.mono HB.out.size)⟩
  · rw [decide_eq_false h0, Bool.false_and] at HOK
    rw [decide_eq_false h0] at hq0
    clear h0 HVC hq1
    generalize checkX x = ec at *
    go_enter Tryz.func31, Tryz.ntmps31
    go_wp2_with (first
      | ((with_reducible refine at_load ?_); refine wpList_ldC (by kernel_rfl) (.tmp 2) rfl (p := w.heap.size) (c := c) rfl (by rw [← HWE.out]; exact HBC.out.box) ?_)
      | (go_at_call 45; rw [← HWE.out]; refine HV.out.mono ?_; rintro e w1 ⟨rfl, hb1⟩; have HB1 := hideIt hb1; clear hb1 HV))
    go_ret
    exact ⟨by rw [HOK.out]; rfl, HB.out.trans (HB1.out.mono HB.out.size)⟩
theorem sl_one9 (w : World) (t : TypeId) (u : Value) : Sl (w.alloc (.cells #[u] t)) (w.alloc (.cells #[u] t)).heap.size (some ⟨w.heap.size, 0, none⟩) 1 1 [u] :=
  ⟨rfl, fun _ => ⟨w.heap.size, 0, rfl, by simp, fun j v hj => by rw [show (w.alloc (.cells #[u] t)).cell? ⟨w.heap.size, 0 + j, none⟩ = [u][0 + j]? from (Blk.new w t [u]).cell _, Nat.zero_add]; exact hj⟩⟩

set_option maxHeartbeats 1000000 in
theorem allunits_any (x : Cd) (A : Option Addr) (c : Nat) (w : World) (hT : Tabs w) (hx : CIn w x A) (N : Nat) (hN : wC x = (N : Int)) (hN9 : N ≤ 100) :
    Calls Tryz.prog 24 #[x.v A c] w fun e w' => ∃ g, e = .returned (.slice (some ⟨g, 0, none⟩) N N) ∧ w.heap.size ≤ g ∧ Blk w' g 4 ((List.replicate N true).map bl) ∧ Below w.heap.size w w' := by
  obtain ⟨W, hW⟩ : ∃ W, W = w.alloc (.cells (x.cs A c).toArray 24) := ⟨_, rfl⟩
  have hbw : Below w.heap.size w W := by rw [hW]; exact below_new w _
  have HWE := hideIt hW
  obtain ⟨W2, hW2⟩ : ∃ W2, W2 = W.alloc (.cells #[.bool true] 4) := ⟨_, rfl⟩
  have hb2 : Below W.heap.size W W2 := by rw [hW2]; exact below_new W _
  have hbc : BC W w.heap.size x A c := by rw [hW]; exact BC.new c hx
  have HBX := hideIt (hbc.keep hb2).box
  have HWD := hideIt (width_any x A c W2 ((hT.keep hbw).keep hb2) (hbc.keep hb2).cin)
  rw [hN] at HWD
  have HSL := hideIt (show Sl W2 W2.heap.size (some ⟨W.heap.size, 0, none⟩) 1 1 [.bool true] by rw [hW2]; exact sl_one9 W _ _)
  have HRP := hideIt (fun (W3 : World) (h : Below W2.heap.size W2 W3) => repeatB_any N (by omega) _ 1 W3 ((HSL.out.below h).wide h.size))
  have HB2 := hideIt (hbw.trans (hb2.mono hbw.size))
  have HWE2 := hideIt hW2
  have hws : W.heap.size = w.heap.size + 1 := by rw [hW]; simp
  clear hbw hx hT hb2 hbc hN hW hW2
  rw [hws] at HSL HRP
  clear hws
  go_enter Tryz.func24, Tryz.ntmps24
  go_wp2_with (first
    | ((with_reducible refine at_load ?_); refine wpList_ldC (by kernel_rfl) (.tmp 1) rfl (p := w.heap.size) (c := c) rfl (by rw [← HWE.out, ← HWE2.out]; exact HBX.out) ?_)
    | (go_at_call 39; rw [← HWE.out, ← HWE2.out]; refine HWD.out.mono ?_; rintro e w3 ⟨rfl, hb3⟩; have HB3 := hideIt hb3; clear hb3 HWD)
    | (go_at_call 38; refine (HRP.out _ HB3.out).mono ?_; rintro e w4 ⟨g, rfl, hg, hblk, hb4⟩; have HB4 := hideIt (HB3.out.trans (hb4.mono HB3.out.size)); have HG := hideIt (Nat.le_trans (Nat.le_trans HB2.out.size HB3.out.size) hg); have HK := hideIt hblk; clear hb4 hg hblk HRP))
  go_ret
  exact ⟨g, rfl, HG.out, HK.out, HB2.out.trans (HB4.out.mono HB2.out.size)⟩
end Go.Proofs.YtkfahoaiialndaaGreatDoor
