/-
  The reference's lose, walked.
-/
import Derived.Test.YtkfahoaiialndaaGreatDoorD9a
import Derived.Test.YtkfahoaiialndaaGreatDoorD9b
import Derived.Test.YtkfahoaiialndaaGreatDoorD9c
import Derived.Test.YtkfahoaiialndaaGreatDoorD9d
import Derived.Test.YtkfahoaiialndaaGreatDoorD9f
import Derived.Test.YtkfahoaiialndaaGreatDoorD9g
import Derived.Test.YtkfahoaiialndaaGreatDoorDstA
import Derived.Test.YtkfahoaiialndaaGreatDoorDstB
import Derived.Test.YtkfahoaiialndaaGreatDoorDstR
import Derived.Test.YtkfahoaiialndaaGreatDoorDstS
namespace Go.Proofs.YtkfahoaiialndaaGreatDoor
open Go.RowKit
set_option linter.unusedVariables false
set_option linter.unusedSimpArgs false

theorem all_next {i N : Nat} (h : i < N) (f : Nat → Bool) : (List.range' i (N - i)).all f = (f i && (List.range' (i + 1) (N - (i + 1))).all f) := by
  rw [show N - i = (N - (i + 1)) + 1 by omega, List.range'_succ, List.all_cons]
/-- The units of a rack among the first k. -/
def rkK (racks : List Int) (nm : Int) (k : Nat) : List Nat := (List.range k).filter fun u => decide (racks.getD u 0 = nm)
theorem rkK_next (racks : List Int) (nm : Int) (k : Nat) : rkK racks nm (k + 1) = if racks.getD k 0 = nm then rkK racks nm k ++ [k] else rkK racks nm k := by
  unfold rkK
  rw [List.range_succ, List.filter_append]
  simp only [List.filter_cons, List.filter_nil, decide_eq_true_eq]
  split <;> simp
theorem rkK_lt {racks : List Int} {nm : Int} {k i : Nat} (h : i ∈ rkK racks nm k) : i < k := List.mem_range.1 (List.mem_filter.1 h).1
theorem rkK_len (racks : List Int) (nm : Int) (k : Nat) : (rkK racks nm k).length ≤ k := by
  have := List.length_filter_le (fun u => decide (racks.getD u 0 = nm)) (List.range k)
  rwa [List.length_range] at this
theorem nI_snoc (S : List Nat) (u : Nat) : nI S ++ [(u : Int)] = nI (S ++ [u]) := by simp [nI]
theorem gI {l : List Int} {k : Nat} (h : k < l.length) : l.getD k 0 = l[k] := by simp [List.getD_eq_getElem?_getD, h]
set_option maxHeartbeats 4000000 in
set_option maxRecDepth 100000 in
theorem lose_any (x : Cd) (A : Option Addr) (c : Nat) (hs9 : Sm9 x) {m n0 : Nat} (hvc : VC x m n0) (racks names : List Int) (hrl : racks.length ≤ 9) (h0 : 0 < racks.length) (hnl : names.length ≤ 9) (R : Option Addr) (cr : Nat) (M : Option Addr) (cm : Nat) :
    ∀ (n : Nat) (hv : List Bool) (fr : Nat) (w : World) (D : Option Addr) (cd : Nat), hv.length = racks.length → n ≤ 5 → fr ≤ names.length → CIn w x A → Sl w w.heap.size R 1 racks.length (racks.map iv) → Sl w w.heap.size M 1 names.length (names.map iv) → Sl w w.heap.size D 1 racks.length (hv.map bl) →
      Calls Tryz.prog 35 #[x.v A c, .slice R racks.length cr, .slice M names.length cm, .slice D racks.length cd, .int .i64 (fr : Int), .int .i64 (n : Int)] w fun e w' => e = .returned (.bool (lsR (dcX x) racks names n hv fr)) ∧ Below w.heap.size w w' := by
  intro n
  induction n with
  | zero =>
    intro hv fr w D cd hhl hn hfr hx hR hM hD
    obtain ⟨W, hW⟩ : ∃ W, W = w.alloc (.cells (x.cs A c).toArray 24) := ⟨_, rfl⟩
    have hbw : Below w.heap.size w W := by rw [hW]; exact below_new w _
    have HB := hideIt hbw
    have HBC := hideIt (show BC W w.heap.size x A c by rw [hW]; exact BC.new c hx)
    have HBX := hideIt HBC.out.box
    have HDC := hideIt (show Calls Tryz.prog 28 #[x.v A c, .slice D racks.length cd] W (fun e w' => e = .returned (.bool (dcX x hv)) ∧ Below W.heap.size W w') by
        have := rdecodable_any x A c W HBC.out.cin (hvc.sm hs9) hv D cd (by rw [hhl]; exact (hD.below hbw).wide hbw.size)
        rw [hhl] at this
        exact this)
    have HWE := hideIt hW
    have HR := hideIt (show lsR (dcX x) racks names 0 hv fr = dcX x hv from rfl)
    clear hbw hx hW hD hR hM
    rw [HR.out]
    generalize dcX x hv = q at *
    clear HR
    go_enter Tryz.func35, Tryz.ntmps35
    go_wp2_with (first
      | ((with_reducible refine at_load ?_); refine wpList_ldC (by kernel_rfl) (.tmp 6) rfl (p := w.heap.size) (c := c) rfl (by rw [← HWE.out]; exact HBX.out) ?_)
      | (go_at_call 28; rw [← HWE.out]; refine HDC.out.mono ?_; rintro e w6 ⟨rfl, hb6⟩; have HL6 := hideIt hb6; clear hb6 HDC))
    go_ret
    exact ⟨rfl, HB.out.trans (HL6.out.mono HB.out.size)⟩
  | succ n ih =>
    intro hv fr w D cd hhl hn hfr hx hR hM hD
    obtain ⟨W, hW⟩ : ∃ W, W = w.alloc (.cells (x.cs A c).toArray 24) := ⟨_, rfl⟩
    have hbw : Below w.heap.size w W := by rw [hW]; exact below_new w _
    have HB := hideIt hbw
    have HBC := hideIt (show BC W w.heap.size x A c by rw [hW]; exact BC.new c hx)
    have HD := hideIt ((hD.below hbw).wide hbw.size)
    have HRK := hideIt ((hR.below hbw).wide hbw.size)
    have HNM := hideIt ((hM.below hbw).wide hbw.size)
    have HWE := hideIt hW
    obtain ⟨F0, hF0⟩ : ∃ f : Nat → Bool, f = fun i => lsR (dcX x) racks names n (wo hv (rkS racks (names.getD i 0))) (i + 1) := ⟨_, rfl⟩
    have HR := hideIt (show lsR (dcX x) racks names (n + 1) hv fr = (List.range' fr (names.length - fr)).all F0 by rw [hF0]; rfl)
    have HWO := hideIt (fun (W2 : World) (h : Below W.heap.size W W2) (nm : Int) (G : Option Addr) (cg : Nat) (hG : Sl W2 W2.heap.size G 1 (rkS racks nm).length ((nI (rkS racks nm)).map iv)) =>
      show Calls Tryz.prog 44 #[.slice D racks.length cd, .slice G (rkS racks nm).length cg] W2 (fun e w' => ∃ A c, e = .returned (.slice A racks.length c) ∧ w'.ownsRow W2.heap.size 4 1 (.slice A racks.length c) racks.length ((wo hv (rkS racks nm)).map bl) ∧ Below W2.heap.size W2 w') by
        have := without_any hv (rkS racks nm) (by omega) (by omega) (Nat.le_trans (rkK_len racks nm racks.length) (by omega)) (fun i hi => by rw [hhl]; exact rkK_lt hi) D cd G cg W2 (by rw [hhl]; exact (HD.out.below h).wide h.size) hG
        rw [hhl] at this
        exact this)
    have HIH := hideIt (fun (W2 : World) (h : Below W.heap.size W W2) (i : Nat) (hi : i < names.length) (G : Option Addr) (cg : Nat) (hG : Sl W2 W2.heap.size G 1 racks.length ((wo hv (rkS racks (names.getD i 0))).map bl)) =>
      show Calls Tryz.prog 35 #[x.v A c, .slice R racks.length cr, .slice M names.length cm, .slice G racks.length cg, .int .i64 ((i + 1 : Nat) : Int), .int .i64 (n : Int)] W2 (fun e w' => e = .returned (.bool (F0 i)) ∧ Below W2.heap.size W2 w') by
        have := ih (wo hv (rkS racks (names.getD i 0))) (i + 1) W2 G cg (by rw [wo_len, hhl]) (by omega) (by omega) (HBC.out.keep h).cin ((HRK.out.below h).wide h.size) ((HNM.out.below h).wide h.size) hG
        rw [hF0]
        exact this)
    have hsub := sub_c1 3 n (by omega)
    have hq0 := i_eql 3 .i64 ((n + 1 : Nat) : Int) 0
    rw [decide_eq_false (by omega)] at hq0
    have hnot := not_b
    clear hbw hx hW hD hF0 ih hn hR hM
    generalize lsR (dcX x) racks names (n + 1) hv fr = r at *
    generalize ((n + 1 : Nat) : Int) = n1 at *
    go_enter Tryz.func35, Tryz.ntmps35
    go_wp2_with fail
    rw [← HWE.out]
    go_loopg [13] (names.length - fr) (fun gk s13 wr => ∃ i : Nat, i + gk = names.length ∧ s13 = .int .i64 (i : Int) ∧ Aside (r = (List.range' i (names.length - i)).all F0) ∧ Aside (Below W.heap.size W wr))
    case atStart => exact ⟨fr, by omega, rfl, HR.out, Below.refl _ _⟩
    case round =>
      obtain ⟨i, hi, rfl, HRI, HL⟩ := hrel
      obtain ⟨w4, rfl⟩ : ∃ x, x = wr := ⟨wr, rfl⟩
      by_cases hlt : i < names.length
      · have hinc := inc_c 3 i (by omega)
        have hki : (i : Int) < (names.length : Int) := by omega
        have HRN := hideIt (all_next hlt F0)
        have HO0 := hideIt (World.ownsRow_nil w4 w4.heap.size 3 1)
        obtain ⟨nm, hnm⟩ : ∃ q, q = names.getD i 0 := ⟨_, rfl⟩
        have HI4 := hideIt (fun (W2 : World) (h : Below W.heap.size W W2) => HIH.out W2 h i hlt)
        rw [← hnm] at HI4
        have HNM4 := hideIt (fun (W2 : World) (h : Below W.heap.size W W2) => show ∃ b o, M = some ⟨b, o, none⟩ ∧ W2.cell? ⟨b, o + i, none⟩ = some (.int .i64 nm) by
          obtain ⟨b, o, h1, _, h2⟩ := (HNM.out.below h).num hlt
          refine ⟨b, o, h1, ?_⟩
          rw [hnm, gI hlt]; exact h2)
        clear hnm hlt
        go_wp2_with fail
        go_loopg [14, 15] racks.length (fun gk s14 s15 wr => ∃ u : Nat, u + gk = racks.length ∧ s15 = .int .i64 (u : Int) ∧ Aside (wr.ownsRow w4.heap.size 3 1 s14 (rkK racks nm u).length ((nI (rkK racks nm u)).map iv)) ∧ Aside (Below w4.heap.size w4 wr))
        case atStart => exact ⟨0, by omega, rfl, HO0.out, Below.refl _ _⟩
        case round =>
          obtain ⟨u, hu, rfl, HO, HL2⟩ := hrel
          obtain ⟨w5, rfl⟩ : ∃ x, x = wr := ⟨wr, rfl⟩
          have HL5 := hideIt (HL.out.trans (HL2.out.mono HL.out.size))
          by_cases hlt : u < racks.length
          · obtain ⟨b, o, rfl, hb, hc⟩ := (HRK.out.below HL5.out).num hlt
            obtain ⟨b2, o2, rfl, hc2⟩ := HNM4.out w5 HL5.out
            have hinc2 := inc_c 3 u (by omega)
            have hku : (u : Int) < (racks.length : Int) := by omega
            have heq := i_eql 3 .i64 racks[u] nm
            have HNX := hideIt (rkK_next racks nm u)
            rw [gI hlt] at HNX
            have hln := rkK_len racks nm u
            generalize racks[u] = ru at *
            clear hb hlt
            by_cases hq : ru = nm
            · rw [decide_eq_true hq] at heq
              have HE := hideIt (show rkK racks nm (u + 1) = rkK racks nm u ++ [u] by rw [HNX.out, if_pos hq])
              clear hq
              go_wp2_with fail
              go_quiet (fail)
              have HD6 := hideIt (below_drewN (Below.refl w5.heap.size w5) nq)
              have HL6 := hideIt (HL2.out.trans (HD6.out.mono HL2.out.size))
              have HO6 := hideIt (own_kept HO.out HD6.out)
              generalize w5.drewN nq = w6 at *
              go_wp2_with (first
                | ((with_reducible refine at_append ?_); refine wpList_apI (y := (u : Int)) (n := (rkK racks nm u).length) (us := nI (rkK racks nm u)) rfl (.tmp 44) (.tmp 46) rfl rfl HO6.out rfl (by omega) HL6.out.size ?_; intro v7 w7 HO7 HG7 HA7 HB7))
              go_roundg (gk - 1)
              case measure => omega
              case rel => exact ⟨u + 1, by omega, by go_num, by rw [HE.out, List.length_append]; have := HO7.out; rwa [show nI (rkK racks nm u) ++ [(u : Int)] = nI (rkK racks nm u ++ [u]) from nI_snoc _ _] at this, HL6.out.trans HB7.out⟩
            · rw [decide_eq_false hq] at heq
              have HE := hideIt (show rkK racks nm (u + 1) = rkK racks nm u by rw [HNX.out, if_neg hq])
              clear hq
              go_wp2_with fail
              go_quiet (fail)
              have HD6 := hideIt (below_drewN (Below.refl w5.heap.size w5) nq)
              have HL6 := hideIt (HL2.out.trans (HD6.out.mono HL2.out.size))
              have HO6 := hideIt (own_kept HO.out HD6.out)
              generalize w5.drewN nq = w6 at *
              go_wp2_with fail
              go_roundg (gk - 1)
              case measure => omega
              case rel => exact ⟨u + 1, by omega, by go_num, by rw [HE.out]; exact HO6.out, HL6.out⟩
          · have hku : ¬ (u : Int) < (racks.length : Int) := by omega
            obtain rfl : u = racks.length := by omega
            have HBX5 := hideIt (HBC.out.keep HL5.out).box
            obtain ⟨G, cg, rfl, _, _⟩ := own_form HO.out
            have HSG := hideIt (show Sl w5 w5.heap.size G 1 (rkS racks nm).length ((nI (rkS racks nm)).map iv) from Sl.of_own HO.out)
            have HWO5 := hideIt (fun (W2 : World) (h : Below w5.heap.size w5 W2) => HWO.out W2 (HL5.out.trans (h.mono HL5.out.size)) nm G cg ((HSG.out.below h).wide h.size))
            change Hid (∀ W2, Below w5.heap.size w5 W2 → Calls Tryz.prog 44 #[.slice D racks.length cd, .slice G (rkK racks nm racks.length).length cg] W2 _) at HWO5
            go_wp2_with fail
            refine loads_begin_n 12 [(10, fun W => Blk W w.heap.size 24 (x.cs A c))] rfl (by kernel_rfl) ?_
            try simp only [Act.put]
            try simp only [List.setIfInBounds_toArray]
            try simp only [List.set_cons_succ]
            try simp only [List.set_cons_zero]
            refine wpAnyL_take (oi := ⟨some 48, _, _, _, _, _⟩) 0 10 (x.v A c) _ rfl (by kernel_rfl) (by kernel_rfl) (by kernel_rfl) (by kernel_rfl) (by kernel_rfl) (by kernel_rfl) (.head _) (fun _ _ _ h => h) (by kernel_rfl) (fun W' hW' => exec_load_blk (cs := x.cs A c) rfl rfl hW' _ Tryz.underlying24 rfl isz5) (Hooks.add HBX5.out (Hooks.nil _ _)) ?_
            try simp only [Act.put]
            try simp only [List.setIfInBounds_toArray]
            try simp only [List.set_cons_succ]
            try simp only [List.set_cons_zero]
            refine wpAnyL_move (oi := ⟨some 49, _, _, _, _, _⟩) 1 ?_ rfl (by kernel_rfl) (by kernel_rfl) (by kernel_rfl) (by kernel_rfl) (fun _ _ _ h => h) (by kernel_rfl) ?_ ((Hooks.add HBX5.out (Hooks.nil _ _))) ?_
            rotate_left
            · intro W'; go_simp; first | done | with_reducible rfl
            try simp only [Act.put]
            try simp only [List.setIfInBounds_toArray]
            try simp only [List.set_cons_succ]
            try simp only [List.set_cons_zero]
            refine wpAnyL_move (oi := ⟨some 50, _, _, _, _, _⟩) 2 ?_ rfl (by kernel_rfl) (by kernel_rfl) (by kernel_rfl) (by kernel_rfl) (fun _ _ _ h => h) (by kernel_rfl) ?_ ((Hooks.add HBX5.out (Hooks.nil _ _))) ?_
            rotate_left
            · intro W'; go_simp; first | done | with_reducible rfl
            try simp only [Act.put]
            try simp only [List.setIfInBounds_toArray]
            try simp only [List.set_cons_succ]
            try simp only [List.set_cons_zero]
            refine wpAnyL_move (oi := ⟨some 51, _, _, _, _, _⟩) 3 ?_ rfl (by kernel_rfl) (by kernel_rfl) (by kernel_rfl) (by kernel_rfl) (fun _ _ _ h => h) (by kernel_rfl) ?_ ((Hooks.add HBX5.out (Hooks.nil _ _))) ?_
            rotate_left
            · intro W'; go_simp; first | done | with_reducible rfl
            try simp only [Act.put]
            try simp only [List.setIfInBounds_toArray]
            try simp only [List.set_cons_succ]
            try simp only [List.set_cons_zero]
            refine wpAnyL_move (oi := ⟨some 52, _, _, _, _, _⟩) 4 ?_ rfl (by kernel_rfl) (by kernel_rfl) (by kernel_rfl) (by kernel_rfl) (fun _ _ _ h => h) (by kernel_rfl) ?_ ((Hooks.add HBX5.out (Hooks.nil _ _))) ?_
            rotate_left
            · intro W'; go_simp; first | done | with_reducible rfl
            try simp only [Act.put]
            try simp only [List.setIfInBounds_toArray]
            try simp only [List.set_cons_succ]
            try simp only [List.set_cons_zero]
            refine wpAnyL_move (oi := ⟨some 54, _, _, _, _, _⟩) 6 ?_ rfl (by kernel_rfl) (by kernel_rfl) (by kernel_rfl) (by kernel_rfl) (fun _ _ _ h => h) (by kernel_rfl) ?_ ((Hooks.add HBX5.out (Hooks.nil _ _))) ?_
            rotate_left
            · intro W'; go_simp; first | done | with_reducible rfl
            try simp only [Act.put]
            try simp only [List.setIfInBounds_toArray]
            try simp only [List.set_cons_succ]
            try simp only [List.set_cons_zero]
            refine wpAnyL_move (oi := ⟨some 55, _, _, _, _, _⟩) 7 ?_ rfl (by kernel_rfl) (by kernel_rfl) (by kernel_rfl) (by kernel_rfl) (fun _ _ _ h => h) (by kernel_rfl) ?_ ((Hooks.add HBX5.out (Hooks.nil _ _))) ?_
            rotate_left
            · intro W'; go_simp; first | done | with_reducible rfl
            try simp only [Act.put]
            try simp only [List.setIfInBounds_toArray]
            try simp only [List.set_cons_succ]
            try simp only [List.set_cons_zero]
            refine wpAnyL_move (oi := ⟨some 56, _, _, _, _, _⟩) 8 ?_ rfl (by kernel_rfl) (by kernel_rfl) (by kernel_rfl) (by kernel_rfl) (fun _ _ _ h => h) (by kernel_rfl) ?_ ((Hooks.add HBX5.out (Hooks.nil _ _))) ?_
            rotate_left
            · intro W'; go_simp; first | done | with_reducible rfl
            try simp only [Act.put]
            try simp only [List.setIfInBounds_toArray]
            try simp only [List.set_cons_succ]
            try simp only [List.set_cons_zero]
            refine wpAnyL_move (oi := ⟨some 57, _, _, _, _, _⟩) 9 ?_ rfl (by kernel_rfl) (by kernel_rfl) (by kernel_rfl) (by kernel_rfl) (fun _ _ _ h => h) (by kernel_rfl) ?_ ((Hooks.add HBX5.out (Hooks.nil _ _))) ?_
            rotate_left
            · intro W'; go_simp; first | done | with_reducible rfl
            try simp only [Act.put]
            try simp only [List.setIfInBounds_toArray]
            try simp only [List.set_cons_succ]
            try simp only [List.set_cons_zero]
            refine wpAnyL_one (o := ⟨some 53, _, _, _, _, _⟩) 5 (by kernel_rfl) rfl (fun K hK => ?_)
            go_wp2_with (first
              | (go_at_call 44; refine (HWO5.out _ (Below.refl w5.heap.size w5).drew).mono ?_; rintro e w6 ⟨A6, c6, rfl, ho6, hb6⟩))
            have hb56 : Below w5.heap.size w5 w6 := (Below.refl w5.heap.size w5).drew.trans hb6
            have HL6 := hideIt (HL5.out.trans (hb56.mono HL5.out.size))
            have HS6 := hideIt (Sl.of_own ho6)
            have HBX6 := hideIt (HBC.out.keep HL6.out).box
            refine hK _ _ (Hooks.add HBX6.out (Hooks.nil _ _)) ?_
            clear hK K ho6 hb6 hb56 HBX5 HWO5 HSG HO
            try simp only [Act.put]
            try simp only [List.setIfInBounds_toArray]
            try simp only [List.set_cons_succ]
            try simp only [List.set_cons_zero]
            refine wpAnyL_one (o := ⟨some 58, _, _, _, _, _⟩) 10 (by kernel_rfl) rfl (fun K hK => ?_)
            go_wp2_with (first
              | (go_at_call 35; refine (HI4.out _ HL6.out _ _ HS6.out).mono ?_; rintro e w7 ⟨rfl, hb7⟩))
            have HL7 := hideIt (HL6.out.trans (hb7.mono HL6.out.size))
            refine hK _ _ (Hooks.skip (by kernel_rfl) (Hooks.nil _ _)) ?_
            clear hK K hb7 HBX6
            try simp only [Act.put]
            try simp only [List.setIfInBounds_toArray]
            try simp only [List.set_cons_succ]
            try simp only [List.set_cons_zero]
            refine loads_tail 11 (by kernel_rfl) (by kernel_rfl) (by kernel_rfl) (by kernel_rfl) ?_
            simp only [List.drop_succ_cons, List.drop_zero]
            cases hq : F0 i with
            | true =>
              rw [hq, Bool.true_and] at HRN
              have HNX := hideIt (show r = (List.range' (i + 1) (names.length - (i + 1))).all F0 by rw [HRI.out, HRN.out])
              clear hq
              go_wp2_with fail
              go_roundg (names.length - (i + 1))
              case measure => omega
              case rel => exact ⟨i + 1, by omega, by go_num, HNX.out, HL7.out⟩
            | false =>
              rw [hq, Bool.false_and] at HRN
              obtain rfl : r = false := by rw [HRI.out, HRN.out]
              clear hq
              go_wp2_with fail
              go_ret
              exact ⟨rfl, HB.out.trans (HL7.out.mono HB.out.size)⟩
      · have hki : ¬ (i : Int) < (names.length : Int) := by omega
        obtain rfl : r = true := by rw [HRI.out, show names.length - i = 0 by omega]; rfl
        go_wp2_with fail
        go_ret
        exact ⟨rfl, HB.out.trans (HL.out.mono HB.out.size)⟩
end Go.Proofs.YtkfahoaiialndaaGreatDoor
