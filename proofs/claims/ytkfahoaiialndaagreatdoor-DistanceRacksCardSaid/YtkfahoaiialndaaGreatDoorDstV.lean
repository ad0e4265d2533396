/-
  The reference's Left, Losses, Fatal and Racks, walked.
-/
import Derived.Test.YtkfahoaiialndaaGreatDoorD9a
import Derived.Test.YtkfahoaiialndaaGreatDoorD9b
import Derived.Test.YtkfahoaiialndaaGreatDoorD9c
import Derived.Test.YtkfahoaiialndaaGreatDoorD9d
import Derived.Test.YtkfahoaiialndaaGreatDoorD9f
import Derived.Test.YtkfahoaiialndaaGreatDoorD9g
import Derived.Test.YtkfahoaiialndaaGreatDoorDstA
import Derived.Test.YtkfahoaiialndaaGreatDoorDstB
import Derived.Test.YtkfahoaiialndaaGreatDoorDstR
import Derived.Test.YtkfahoaiialndaaGreatDoorDstS
import Derived.Test.YtkfahoaiialndaaGreatDoorDstU
namespace Go.Proofs.YtkfahoaiialndaaGreatDoor
open Go.RowKit
set_option linter.unusedVariables false
set_option linter.unusedSimpArgs false

theorem lf_next {P : Nat → Bool} {M f : Nat} (h : f < M) : lfN P (M - f) f = if P f = true then f else lfN P (M - (f + 1)) (f + 1) := by
  rw [show M - f = (M - (f + 1)) + 1 by omega]; rfl
theorem lf_end {P : Nat → Bool} {M f : Nat} (h : M - f = 0) : lfN P (M - f) f = f := by rw [h]; rfl
set_option maxHeartbeats 4000000 in
set_option maxRecDepth 100000 in
theorem rleft_any (x : Cd) (A : Option Addr) (c : Nat) (w : World) (hx : CIn w x A) (hnm : x.name.length ≤ 9223372036854775807) (hs9 : Sm9 x) (hs : List Bool) (hl : hs.length ≤ 1000) (D : Option Addr) (cd : Nat) (hD : Sl w w.heap.size D 1 hs.length (hs.map bl)) :
    Calls Tryz.prog 14 #[x.v A c, .slice D hs.length cd] w fun e w' => e = .returned (.int .i64 (leftZ (dcX x) (okX x hs.length) hs)) ∧ Below w.heap.size w w' := by
  obtain ⟨W, hW⟩ : ∃ W, W = w.alloc (.cells (x.cs A c).toArray 24) := ⟨_, rfl⟩
  have hbw : Below w.heap.size w W := by rw [hW]; exact below_new w _
  have HB := hideIt hbw
  have HBC := hideIt (show BC W w.heap.size x A c by rw [hW]; exact BC.new c hx)
  have HBX := hideIt HBC.out.box
  have HD := hideIt ((hD.below hbw).wide hbw.size)
  have HV := hideIt (rvalid9_any x A c W HBC.out.cin hnm hs9 hs.length)
  have HWE := hideIt hW
  have hnot := not_b
  obtain ⟨Z, hZ⟩ : ∃ z, z = leftZ (dcX x) (okX x hs.length) hs := ⟨_, rfl⟩
  rw [← hZ]
  have HZ := hideIt (hZ.trans rfl : Z = if okX x hs.length = true ∧ dcX x hs = true then (leftN (dcX x) hs : Int) else -1)
  clear hbw hx hW hD hZ
  cases hok : okX x hs.length with
  | false =>
    rw [hok] at HV HZ
    have HE := hideIt (HZ.out.trans (if_neg (fun h => by cases h.1)))
    clear hok
    go_enter Tryz.func14, Tryz.ntmps14
    go_wp2_with (first | ((with_reducible refine at_load ?_); refine wpList_ldC (by kernel_rfl) (.tmp 2) rfl (p := w.heap.size) (c := c) rfl (by rw [← HWE.out]; exact HBX.out) ?_) | (go_at_call 27; rw [← HWE.out]; refine HV.out.mono ?_; rintro e w1 ⟨rfl, hb1⟩; have HB1 := hideIt hb1; have HBX1 := hideIt (HBC.out.keep hb1).box; clear hb1 HV HBX))
    go_ret
    exact ⟨by rw [HE.out]; rfl, HB.out.trans (HB1.out.mono HB.out.size)⟩
  | true =>
    obtain ⟨m, n0, hvc, hN, hN9⟩ := okX_vc hs9 hok
    have hpos : 0 < hs.length := by have := hvc.pos; omega
    rw [hok] at HV HZ
    have HDC := hideIt (fun (W2 : World) (h : Below W.heap.size W W2) =>
      show Calls Tryz.prog 28 #[x.v A c, .slice D hs.length cd] W2 (fun e w' => e = .returned (.bool (dcX x hs)) ∧ Below W2.heap.size W2 w') from
        rdecodable_any x A c W2 (HBC.out.keep h).cin (hvc.sm hs9) hs D cd ((HD.out.below h).wide h.size))
    have HPR := hideIt (fun (W2 : World) (h : Below W.heap.size W W2) => present_any hs (by omega) D cd W2 ((HD.out.below h).wide h.size))
    have HFT := hideIt (fun (W2 : World) (h : Below W.heap.size W W2) (n : Nat) (hn : n ≤ 5) =>
      show Calls Tryz.prog 30 #[x.v A c, .slice D hs.length cd, .slice none 0 0, .int .i64 0, .int .i64 (n : Int)] W2 (FtRes W2 (ftl (dcX x) hs n [] 0)) from
        fatal_any x A c hs9 hvc hs hN9 hpos D cd n [] 0 W2 none 0 hn (by simp; omega) (fun i hi => by cases hi) (Nat.zero_le _) (HBC.out.keep h).cin ((HD.out.below h).wide h.size) (Sl.nil _ _ _ _) (fun _ => rfl))
    clear hok hvc hN
    cases hdc : dcX x hs with
    | false =>
      rw [hdc] at HZ HDC
      have HE := hideIt (HZ.out.trans (if_neg (fun h => by cases h.2)))
      clear hdc
      go_enter Tryz.func14, Tryz.ntmps14
      go_wp2_with (first
        | ((with_reducible refine at_load ?_); refine wpList_ldC (by kernel_rfl) (.tmp 2) rfl (p := w.heap.size) (c := c) rfl (by rw [← HWE.out]; exact HBX.out) ?_) | (go_at_call 27; rw [← HWE.out]; refine HV.out.mono ?_; rintro e w1 ⟨rfl, hb1⟩; have HB1 := hideIt hb1; have HBX1 := hideIt (HBC.out.keep hb1).box; clear hb1 HV HBX)
        | ((with_reducible refine at_load ?_); refine wpList_ldC (by kernel_rfl) (.tmp 2) rfl (p := w.heap.size) (c := c) rfl HBX1.out ?_)
        | (go_at_call 28; refine (HDC.out _ HB1.out).mono ?_; rintro e w2 ⟨rfl, hb2⟩; have HB2 := hideIt (HB1.out.trans (hb2.mono HB1.out.size)); clear hb2 HDC))
      go_ret
      exact ⟨by rw [HE.out]; rfl, HB.out.trans (HB2.out.mono HB.out.size)⟩
    | true =>
      rw [hdc] at HZ HDC
      obtain ⟨P, hP⟩ : ∃ p : Nat → Bool, p = fun f => (ftl (dcX x) hs (f + 1) [] 0).isSome := ⟨_, rfl⟩
      obtain ⟨cn, hcn⟩ : ∃ q, q = cntT hs := ⟨_, rfl⟩
      have HE := hideIt (show Z = (lfN P (min 4 cn - 0) 0 : Nat) by rw [HZ.out, if_pos ⟨rfl, rfl⟩, hP, hcn]; rfl)
      have HFT2 := hideIt (fun (W2 : World) (h : Below W.heap.size W W2) (f : Nat) (hf : f < 4) => HFT.out W2 h (f + 1) (by omega))
      have HPF := hideIt (fun f => show (ftl (dcX x) hs (f + 1) [] 0).isSome = P f by rw [hP])
      have hcle : cn ≤ hs.length := by rw [hcn]; exact cntK_le hs _
      rw [← hcn] at HPR
      clear hdc hP hcn HZ HFT
      go_enter Tryz.func14, Tryz.ntmps14
      go_wp2_with (first
        | ((with_reducible refine at_load ?_); refine wpList_ldC (by kernel_rfl) (.tmp 2) rfl (p := w.heap.size) (c := c) rfl (by rw [← HWE.out]; exact HBX.out) ?_) | (go_at_call 27; rw [← HWE.out]; refine HV.out.mono ?_; rintro e w1 ⟨rfl, hb1⟩; have HB1 := hideIt hb1; have HBX1 := hideIt (HBC.out.keep hb1).box; clear hb1 HV HBX)
        | ((with_reducible refine at_load ?_); refine wpList_ldC (by kernel_rfl) (.tmp 2) rfl (p := w.heap.size) (c := c) rfl HBX1.out ?_)
        | (go_at_call 28; refine (HDC.out _ HB1.out).mono ?_; rintro e w2 ⟨rfl, hb2⟩; have HB2 := hideIt (HB1.out.trans (hb2.mono HB1.out.size)); clear hb2 HDC))
      go_loopg [7] (min 4 cn) (fun gk s7 wr => ∃ f : Nat, f + gk = min 4 cn ∧ s7 = .int .i64 (f : Int) ∧ Aside (Z = (lfN P (min 4 cn - f) f : Nat)) ∧ Aside (Below W.heap.size W wr))
      case atStart => exact ⟨0, by omega, rfl, HE.out, HB2.out⟩
      case round =>
        obtain ⟨f, hf, rfl, HZF, HL⟩ := hrel
        obtain ⟨w4, rfl⟩ : ∃ x, x = wr := ⟨wr, rfl⟩
        have HBX4 := hideIt (HBC.out.keep HL.out).box
        by_cases h4 : f < 4
        · have hf4 : (f : Int) < 4 := by omega
          by_cases hc : f < cn
          · have hfc : (f : Int) < (cn : Int) := by omega
            have HNX := hideIt (lf_next (P := P) (M := min 4 cn) (f := f) (by omega))
            have hinc := inc_c 3 f (by omega)
            have HF4 := hideIt (HFT2.out w4 HL.out f h4)
            have HPF4 := hideIt (HPF.out f)
            generalize ftl (dcX x) hs (f + 1) [] 0 = q at *
            cases q with
            | none =>
              have HE4 := hideIt (show Z = (lfN P (min 4 cn - (f + 1)) (f + 1) : Nat) by rw [HZF.out, HNX.out, if_neg (by rw [← HPF4.out]; decide)])
              clear h4 hc
              go_wp2_with (first
                | (go_at_call 29; refine (HPR.out _ HL.out).mono ?_; rintro e w5 ⟨rfl, rfl⟩)
                | ((with_reducible refine at_load ?_); refine wpList_ldC (by kernel_rfl) (.tmp 2) rfl (p := w.heap.size) (c := c) rfl HBX4.out ?_)
                | (go_at_call 30; refine HF4.out.mono ?_; rintro e w5 ⟨F5, k5, cf5, rfl, hF5, hb5⟩; have HL5 := hideIt (HL.out.trans (hb5.mono HL.out.size)); clear hF5 hb5))
              go_roundg (gk - 1)
              case measure => omega
              case rel => exact ⟨f + 1, by omega, by go_num, HE4.out, HL5.out⟩
            | some l =>
              have HE4 := hideIt (show Z = (f : Int) by rw [HZF.out, HNX.out, if_pos (by rw [← HPF4.out]; rfl)])
              clear h4 hc
              go_wp2_with (first
                | (go_at_call 29; refine (HPR.out _ HL.out).mono ?_; rintro e w5 ⟨rfl, rfl⟩)
                | ((with_reducible refine at_load ?_); refine wpList_ldC (by kernel_rfl) (.tmp 2) rfl (p := w.heap.size) (c := c) rfl HBX4.out ?_)
                | (go_at_call 30; refine HF4.out.mono ?_; rintro e w5 ⟨F5, k5, cf5, rfl, hF5, hb5⟩; have HL5 := hideIt (HL.out.trans (hb5.mono HL.out.size)); clear hF5 hb5))
              go_ret
              exact ⟨by rw [HE4.out]; rfl, HB.out.trans (HL5.out.mono HB.out.size)⟩
          · have hfc : ¬ (f : Int) < (cn : Int) := by omega
            have HE4 := hideIt (show Z = (f : Int) by rw [HZF.out, lf_end (by omega)])
            clear h4
            go_wp2_with (first
              | (go_at_call 29; refine (HPR.out _ HL.out).mono ?_; rintro e w5 ⟨rfl, rfl⟩))
            go_ret
            exact ⟨by rw [HE4.out]; rfl, HB.out.trans (HL.out.mono HB.out.size)⟩
        · have hf4 : ¬ (f : Int) < 4 := by omega
          have HE4 := hideIt (show Z = (f : Int) by rw [HZF.out, lf_end (by omega)])
          clear h4
          go_wp2_with fail
          go_ret
          exact ⟨by rw [HE4.out]; rfl, HB.out.trans (HL.out.mono HB.out.size)⟩
end Go.Proofs.YtkfahoaiialndaaGreatDoor
