/-
  The reference's Losses, Fatal and Racks, walked.
-/
import Derived.Test.YtkfahoaiialndaaGreatDoorD9a
import Derived.Test.YtkfahoaiialndaaGreatDoorD9b
import Derived.Test.YtkfahoaiialndaaGreatDoorD9c
import Derived.Test.YtkfahoaiialndaaGreatDoorD9d
import Derived.Test.YtkfahoaiialndaaGreatDoorD9f
import Derived.Test.YtkfahoaiialndaaGreatDoorD9g
import Derived.Test.YtkfahoaiialndaaGreatDoorDstA
import Derived.Test.YtkfahoaiialndaaGreatDoorDstB
import Derived.Test.YtkfahoaiialndaaGreatDoorDstR
import Derived.Test.YtkfahoaiialndaaGreatDoorDstS
import Derived.Test.YtkfahoaiialndaaGreatDoorDstU
import Derived.Test.YtkfahoaiialndaaGreatDoorDstV
namespace Go.Proofs.YtkfahoaiialndaaGreatDoor
open Go.RowKit
set_option linter.unusedVariables false
set_option linter.unusedSimpArgs false

/-- The width as a natural number. -/
abbrev wdN (x : Cd) : Nat := (x.data + x.par.length).toNat
theorem Sm9.wdn {x : Cd} (h : Sm9 x) : ((wdN x : Nat) : Int) = x.data + x.par.length ∧ wdN x ≤ 9 := by
  have := h.lo
  have := h.all
  unfold wdN
  omega
set_option maxHeartbeats 4000000 in
set_option maxRecDepth 100000 in
theorem rlosses_any (x : Cd) (A : Option Addr) (c : Nat) (w : World) (hx : CIn w x A) (hnm : x.name.length ≤ 9223372036854775807) (hs9 : Sm9 x) :
    Calls Tryz.prog 12 #[x.v A c] w fun e w' => e = .returned (.int .i64 (leftZ (dcX x) (okX x (wdN x)) (List.replicate (wdN x) true))) ∧ Below w.heap.size w w' := by
  obtain ⟨W, hW⟩ : ∃ W, W = w.alloc (.cells (x.cs A c).toArray 24) := ⟨_, rfl⟩
  have hbw : Below w.heap.size w W := by rw [hW]; exact below_new w _
  have HB := hideIt hbw
  have HBC := hideIt (show BC W w.heap.size x A c by rw [hW]; exact BC.new c hx)
  have HBX := hideIt HBC.out.box
  have HWE := hideIt hW
  have hadd := add_sm9 hs9 3
  obtain ⟨N, hN⟩ : ∃ n, n = wdN x := ⟨_, rfl⟩
  have hwn := hs9.wdn
  rw [← hN] at hwn ⊢
  rw [← hwn.1] at hadd
  have HAL := hideIt (fun (W2 : World) => all_any N (by omega) W2)
  have HLF := hideIt (fun (W2 : World) (h : Below W.heap.size W W2) (G : Option Addr) (cg : Nat) (hG : Sl W2 W2.heap.size G 1 N ((List.replicate N true).map bl)) =>
    show Calls Tryz.prog 14 #[x.v A c, .slice G N cg] W2 (fun e w' => e = .returned (.int .i64 (leftZ (dcX x) (okX x N) (List.replicate N true))) ∧ Below W2.heap.size W2 w') by
      have := rleft_any x A c W2 (HBC.out.keep h).cin hnm hs9 (List.replicate N true) (by rw [List.length_replicate]; omega) G cg (by rw [List.length_replicate]; exact hG)
      rw [List.length_replicate] at this
      exact this)
  have c2 := HBC.out.c2
  have c3 : W.cell? ⟨w.heap.size, 3, none⟩ = some (.slice A x.par.length c) := HBC.out.box.cell 3
  generalize leftZ (dcX x) (okX x N) (List.replicate N true) = z at *
  clear hbw hx hW hN hs9 hwn
  go_enter Tryz.func12, Tryz.ntmps12
  go_wp2_with fail
  rw [← HWE.out]
  refine loads_begin_n 10 [(9, fun W => Blk W w.heap.size 24 (x.cs A c)), (9, fun W => W.cell? ⟨w.heap.size, 2, none⟩ = some (.int .i64 x.data)), (9, fun W => W.cell? ⟨w.heap.size, 3, none⟩ = some (.slice A x.par.length c))] rfl (by kernel_rfl) ?_
  try simp only [Act.put]
  try simp only [List.setIfInBounds_toArray]
  try simp only [List.set_cons_succ]
  try simp only [List.set_cons_zero]
  refine wpAnyL_take (oi := ⟨some 3, _, _, _, _, _⟩) 0 9 (x.v A c) _ rfl (by kernel_rfl) (by kernel_rfl) (by kernel_rfl) (by kernel_rfl) (by kernel_rfl) (by kernel_rfl) (.head _) (fun _ _ _ h => h) (by kernel_rfl) (fun W' hW' => exec_load_blk (cs := x.cs A c) rfl rfl hW' _ Tryz.underlying24 rfl isz5) (Hooks.add HBX.out (Hooks.add c2 (Hooks.add c3 (Hooks.nil _ _)))) ?_
  try simp only [Act.put]
  try simp only [List.setIfInBounds_toArray]
  try simp only [List.set_cons_succ]
  try simp only [List.set_cons_zero]
  refine wpAnyL_move (oi := ⟨some 4, _, _, _, _, _⟩) 1 ?_ rfl (by kernel_rfl) (by kernel_rfl) (by kernel_rfl) (by kernel_rfl) (fun _ _ _ h => h) (by kernel_rfl) ?_ ((Hooks.add HBX.out (Hooks.add c2 (Hooks.add c3 (Hooks.nil _ _))))) ?_
  rotate_left
  · intro W'; go_simp; first | done | with_reducible rfl
  try simp only [Act.put]
  try simp only [List.setIfInBounds_toArray]
  try simp only [List.set_cons_succ]
  try simp only [List.set_cons_zero]
  refine wpAnyL_take (oi := ⟨some 5, _, _, _, _, _⟩) 2 9 (.int .i64 x.data) _ rfl (by kernel_rfl) (by kernel_rfl) (by kernel_rfl) (by kernel_rfl) (by kernel_rfl) (by kernel_rfl) (.tail _ (.head _)) (fun _ _ _ h => h) (by kernel_rfl) (fun W' hW' => by (try dsimp only at hW'); go_simp) (Hooks.add HBX.out (Hooks.add c2 (Hooks.add c3 (Hooks.nil _ _)))) ?_
  try simp only [Act.put]
  try simp only [List.setIfInBounds_toArray]
  try simp only [List.set_cons_succ]
  try simp only [List.set_cons_zero]
  refine wpAnyL_move (oi := ⟨some 6, _, _, _, _, _⟩) 3 ?_ rfl (by kernel_rfl) (by kernel_rfl) (by kernel_rfl) (by kernel_rfl) (fun _ _ _ h => h) (by kernel_rfl) ?_ ((Hooks.add HBX.out (Hooks.add c2 (Hooks.add c3 (Hooks.nil _ _))))) ?_
  rotate_left
  · intro W'; go_simp; first | done | with_reducible rfl
  try simp only [Act.put]
  try simp only [List.setIfInBounds_toArray]
  try simp only [List.set_cons_succ]
  try simp only [List.set_cons_zero]
  refine wpAnyL_take (oi := ⟨some 7, _, _, _, _, _⟩) 4 9 (.slice A x.par.length c) _ rfl (by kernel_rfl) (by kernel_rfl) (by kernel_rfl) (by kernel_rfl) (by kernel_rfl) (by kernel_rfl) (.tail _ (.tail _ (.head _))) (fun _ _ _ h => h) (by kernel_rfl) (fun W' hW' => by (try dsimp only at hW'); go_simp) (Hooks.add HBX.out (Hooks.add c2 (Hooks.add c3 (Hooks.nil _ _)))) ?_
  try simp only [Act.put]
  try simp only [List.setIfInBounds_toArray]
  try simp only [List.set_cons_succ]
  try simp only [List.set_cons_zero]
  refine wpAnyL_move (oi := ⟨some 8, _, _, _, _, _⟩) 5 ?_ rfl (by kernel_rfl) (by kernel_rfl) (by kernel_rfl) (by kernel_rfl) (fun _ _ _ h => h) (by kernel_rfl) ?_ ((Hooks.add HBX.out (Hooks.add c2 (Hooks.add c3 (Hooks.nil _ _))))) ?_
  rotate_left
  · intro W'; go_simp; first | done | with_reducible rfl
  try simp only [Act.put]
  try simp only [List.setIfInBounds_toArray]
  try simp only [List.set_cons_succ]
  try simp only [List.set_cons_zero]
  refine wpAnyL_move (oi := ⟨some 9, _, _, _, _, _⟩) 6 ?_ rfl (by kernel_rfl) (by kernel_rfl) (by kernel_rfl) (by kernel_rfl) (fun _ _ _ h => h) (by kernel_rfl) ?_ ((Hooks.add HBX.out (Hooks.add c2 (Hooks.add c3 (Hooks.nil _ _))))) ?_
  rotate_left
  · intro W'; go_simp; first | done | with_reducible rfl
  try simp only [Act.put]
  try simp only [List.setIfInBounds_toArray]
  try simp only [List.set_cons_succ]
  try simp only [List.set_cons_zero]
  refine wpAnyL_one (o := ⟨some 10, _, _, _, _, _⟩) 7 (by kernel_rfl) rfl (fun K hK => ?_)
  go_wp2_with (first
    | (go_at_call 25; refine (HAL.out _).mono ?_; rintro e w5 ⟨A5, c5, rfl, ho5, hb5⟩))
  have hb45 : Below W.heap.size W w5 := (Below.refl W.heap.size W).drew.trans hb5
  have HL5 := hideIt hb45
  have HS5 := hideIt (Sl.of_own ho5)
  have HBX5 := hideIt (HBC.out.keep hb45).box
  have c25 := (HBC.out.keep hb45).c2
  have c35 : w5.cell? ⟨w.heap.size, 3, none⟩ = some (.slice A x.par.length c) := (HBC.out.keep hb45).box.cell 3
  refine hK _ _ (Hooks.add HBX5.out (Hooks.add c25 (Hooks.add c35 (Hooks.nil _ _)))) ?_
  clear hK K ho5 hb5 hb45 HBX HAL c2 c3
  try simp only [Act.put]
  try simp only [List.setIfInBounds_toArray]
  try simp only [List.set_cons_succ]
  try simp only [List.set_cons_zero]
  refine wpAnyL_one (o := ⟨some 11, _, _, _, _, _⟩) 8 (by kernel_rfl) rfl (fun K hK => ?_)
  go_wp2_with (first
    | (go_at_call 14; refine (HLF.out _ HL5.out _ _ HS5.out).mono ?_; rintro e w6 ⟨rfl, hb6⟩))
  have HL6 := hideIt (HL5.out.trans (hb6.mono HL5.out.size))
  have HBX6 := hideIt (HBC.out.keep HL6.out).box
  have c26 := (HBC.out.keep HL6.out).c2
  have c36 : w6.cell? ⟨w.heap.size, 3, none⟩ = some (.slice A x.par.length c) := HBX6.out.cell 3
  refine hK _ _ (Hooks.add HBX6.out (Hooks.add c26 (Hooks.add c36 (Hooks.nil _ _)))) ?_
  clear hK K hb6 HLF HBX5 c25 c35
  try simp only [Act.put]
  try simp only [List.setIfInBounds_toArray]
  try simp only [List.set_cons_succ]
  try simp only [List.set_cons_zero]
  refine loads_tail 9 (by kernel_rfl) (by kernel_rfl) (by kernel_rfl) (by kernel_rfl) ?_
  simp only [List.drop_succ_cons, List.drop_zero]
  go_wp2_with fail
  go_ret
  exact ⟨rfl, HB.out.trans (HL6.out.mono HB.out.size)⟩

/-- A list of numbers that may be read. -/
def RdRes (w : World) (l : List Nat) (e : Ending) (w' : World) : Prop :=
  ∃ F cf, e = .returned (.slice F l.length cf) ∧ Sl w' w'.heap.size F 1 l.length ((nI l).map iv) ∧ Below w.heap.size w w'
set_option maxHeartbeats 4000000 in
set_option maxRecDepth 100000 in
theorem rfatal9_any (x : Cd) (A : Option Addr) (c : Nat) (w : World) (hx : CIn w x A) (hnm : x.name.length ≤ 9223372036854775807) (hs9 : Sm9 x) (hs : List Bool) (hl : hs.length ≤ 1000) (D : Option Addr) (cd : Nat) (hD : Sl w w.heap.size D 1 hs.length (hs.map bl)) :
    Calls Tryz.prog 17 #[x.v A c, .slice D hs.length cd] w (RdRes w (fatZ (dcX x) (okX x hs.length) hs)) := by
  obtain ⟨W, hW⟩ : ∃ W, W = w.alloc (.cells (x.cs A c).toArray 24) := ⟨_, rfl⟩
  have hbw : Below w.heap.size w W := by rw [hW]; exact below_new w _
  have HB := hideIt hbw
  have HBC := hideIt (show BC W w.heap.size x A c by rw [hW]; exact BC.new c hx)
  have HBX := hideIt HBC.out.box
  have HD := hideIt ((hD.below hbw).wide hbw.size)
  have HV := hideIt (rleft_any x A c W HBC.out.cin hnm hs9 hs hl D cd HD.out)
  have HWE := hideIt hW
  obtain ⟨L, hL⟩ : ∃ z, z = fatZ (dcX x) (okX x hs.length) hs := ⟨_, rfl⟩
  rw [← hL]
  have HZ := hideIt (hL.trans rfl : L = if okX x hs.length = true ∧ dcX x hs = true ∧ leftN (dcX x) hs ≠ 4 then (ftl (dcX x) hs (leftN (dcX x) hs + 1) [] 0).getD [] else [])
  clear hbw hx hW hD hL
  by_cases hok : okX x hs.length = true ∧ dcX x hs = true
  · have hz : leftZ (dcX x) (okX x hs.length) hs = ((leftN (dcX x) hs : Nat) : Int) := if_pos hok
    rw [hz] at HV
    have h5 : leftN (dcX x) hs ≤ 4 := left_le.1
    obtain ⟨m, n0, hvc, hN, hN9⟩ := okX_vc hs9 hok.1
    have hpos : 0 < hs.length := by have := hvc.pos; omega
    have HFT := hideIt (fun (W2 : World) (h : Below W.heap.size W W2) (n : Nat) (hn : n ≤ 5) =>
      show Calls Tryz.prog 30 #[x.v A c, .slice D hs.length cd, .slice none 0 0, .int .i64 0, .int .i64 (n : Int)] W2 (FtRes W2 (ftl (dcX x) hs n [] 0)) from
        fatal_any x A c hs9 hvc hs hN9 hpos D cd n [] 0 W2 none 0 hn (by simp; omega) (fun i hi => by cases hi) (Nat.zero_le _) (HBC.out.keep h).cin ((HD.out.below h).wide h.size) (Sl.nil _ _ _ _) (fun _ => rfl))
    have HFT2 := hideIt (fun (W2 : World) (h : Below W.heap.size W W2) => HFT.out W2 h (leftN (dcX x) hs + 1) (by omega))
    have HSM := hideIt (fun h4 => fatal_is (dcd_x hvc) hN hok.2 h4)
    by_cases h4 : leftN (dcX x) hs = 4
    · have HE := hideIt (HZ.out.trans (if_neg fun h => h.2.2 h4))
      rw [h4] at HV
      clear hok hz hvc hN h4 HSM HFT HFT2 HZ
      go_enter Tryz.func17, Tryz.ntmps17
      go_wp2_with (first
        | ((with_reducible refine at_load ?_); refine wpList_ldC (by kernel_rfl) (.tmp 2) rfl (p := w.heap.size) (c := c) rfl (by rw [← HWE.out]; exact HBX.out) ?_)
        | (go_at_call 14; rw [← HWE.out]; refine HV.out.mono ?_; rintro e w1 ⟨rfl, hb1⟩; have HB1 := hideIt hb1; clear hb1 HV))
      go_ret
      rw [HE.out]
      exact ⟨_, _, rfl, Sl.nil _ _ _ _, HB.out.trans (HB1.out.mono HB.out.size)⟩
    · obtain ⟨l, hl1, _⟩ := HSM.out h4
      have HE := hideIt (show L = l by rw [HZ.out, if_pos ⟨hok.1, hok.2, h4⟩, hl1]; rfl)
      rw [hl1] at HFT2
      have hf0 : ¬ ((leftN (dcX x) hs : Nat) : Int) < 0 := by omega
      have heq := i_eql 3 .i64 ((leftN (dcX x) hs : Nat) : Int) 4
      rw [decide_eq_false (by omega)] at heq
      have hinc := inc_c 3 (leftN (dcX x) hs) (by omega)
      clear hok hz hvc hN h4 HSM HFT HZ hl1 h5
      generalize leftN (dcX x) hs = f at *
      go_enter Tryz.func17, Tryz.ntmps17
      go_wp2_with (first
        | ((with_reducible refine at_load ?_); refine wpList_ldC (by kernel_rfl) (.tmp 2) rfl (p := w.heap.size) (c := c) rfl (by first | exact HBX1.out | (rw [← HWE.out]; exact HBX.out)) ?_)
        | (go_at_call 14; rw [← HWE.out]; refine HV.out.mono ?_; rintro e w1 ⟨rfl, hb1⟩; have HB1 := hideIt hb1; have HBX1 := hideIt (HBC.out.keep hb1).box; clear hb1 HV)
        | (go_at_call 30; refine (HFT2.out _ HB1.out).mono ?_; rintro e w5 ⟨F5, k5, cf5, rfl, hF5, hb5⟩; have HL5 := hideIt (HB1.out.trans (hb5.mono HB1.out.size)); have HF5 := hideIt hF5; clear hF5 hb5))
      go_ret
      rw [HE.out]
      obtain ⟨rfl, hs5⟩ := HF5.out l rfl
      exact ⟨_, _, rfl, hs5, HB.out.trans (HL5.out.mono HB.out.size)⟩
  · have hz : leftZ (dcX x) (okX x hs.length) hs = -1 := if_neg hok
    rw [hz] at HV
    have HE := hideIt (HZ.out.trans (if_neg fun h => hok ⟨h.1, h.2.1⟩))
    clear hok hz HZ
    go_enter Tryz.func17, Tryz.ntmps17
    go_wp2_with (first
      | ((with_reducible refine at_load ?_); refine wpList_ldC (by kernel_rfl) (.tmp 2) rfl (p := w.heap.size) (c := c) rfl (by rw [← HWE.out]; exact HBX.out) ?_)
      | (go_at_call 14; rw [← HWE.out]; refine HV.out.mono ?_; rintro e w1 ⟨rfl, hb1⟩; have HB1 := hideIt hb1; clear hb1 HV))
    go_ret
    rw [HE.out]
    exact ⟨_, _, rfl, Sl.nil _ _ _ _, HB.out.trans (HB1.out.mono HB.out.size)⟩
end Go.Proofs.YtkfahoaiialndaaGreatDoor
