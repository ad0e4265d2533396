/-
  The program's basis in memory; isFull and the closure of reduced, walked.
-/
import Derived.Test.YtpjgmekpnlpjaaaDoorEraJ
import Derived.Test.YtpjgmekpnlpjaaaDoorEraB
import Derived.BigQuiet
namespace Go.Proofs.YtpjgmekpnlpjaaaDoor
open Go.RowKit
set_option linter.unusedVariables false
set_option linter.unusedSimpArgs false

abbrev baC (F R C : Int) (g u r p : Value) : List Value := [.int .i64 F, .int .i64 R, .int .i64 C, g, u, r, p]
abbrev baV (F R C : Int) (g u r p : Value) : Value := .agg #[.int .i64 F, .int .i64 R, .int .i64 C, g, u, r, p]
/-- The reduced rows as lists. -/
def rowsL (n : Nat) (Q : Mx) (p : Nat) : List (List Int) := (List.range p).map fun i => nl (2 * n) (Q i)
theorem rowsL_len (n : Nat) (Q : Mx) (p : Nat) : (rowsL n Q p).length = p := by simp [rowsL]
theorem rowsL_at (n : Nat) (Q : Mx) (p i : Nat) (h : i < (rowsL n Q p).length) : (rowsL n Q p)[i] = nl (2 * n) (Q i) := by simp [rowsL]
/-- A basis, to read: its cells and what they point at. -/
structure BaM (W : World) (x : Cd) (m n : Nat) (B pv : List Nat) (Q : Mx) (gA uA rA pA : Option Addr) : Prop where
  gen : Sl W W.heap.size gA 1 ((n + x.par.length) * n) ((genK x x.par.length).map iv)
  uni : Sl W W.heap.size uA 1 B.length (pvC B)
  row : PM W W.heap.size rA (rowsL n Q B.length)
  piv : Sl W W.heap.size pA 1 pv.length (pvC pv)
section
variable {W W' : World} {x : Cd} {m n : Nat} {B pv : List Nat} {Q : Mx} {gA uA rA pA : Option Addr}
theorem BaM.keep (h : BaM W x m n B pv Q gA uA rA pA) (hb : Below W.heap.size W W') : BaM W' x m n B pv Q gA uA rA pA :=
  ⟨(h.gen.below hb).wide hb.size, (h.uni.below hb).wide hb.size, (h.row.below hb).wide hb.size, (h.piv.below hb).wide hb.size⟩
end

set_option maxHeartbeats 1000000 in
theorem isFull_any (pb : Nat) (m R n p : Nat) (g r v : Value) (A : Option Addr) (c : Nat) (w : World) (hb : Blk w pb 74 (baC (m : Int) (R : Int) (n : Int) g (.slice A p c) r v)) :
    Calls Tryd.prog 53 #[.pointer (some ⟨pb, 0, none⟩)] w fun e w' => e = .returned (.bool (decide (p = n))) ∧ Below w.heap.size w w' := by
  have c2 : w.cell? ⟨pb, 2, none⟩ = some (.int .i64 (n : Int)) := hb.cell 2
  have c4 : w.cell? ⟨pb, 4, none⟩ = some (.slice A p c) := hb.cell 4
  have hq := i_eql 3 .i64 (p : Int) (n : Int)
  rw [show decide ((p : Int) = (n : Int)) = decide (p = n) from decide_eq_decide.2 (by omega)] at hq
  clear hb
  generalize decide (p = n) = b at *
  go_enter Tryd.func53, Tryd.ntmps53
  go_wp2_with fail
  go_quiet (fail)
  go_wp2_with fail
  go_ret
  exact ⟨rfl, below_drewN (Below.refl _ _) _⟩

def adK (m f : Nat) (r t : Nat → Nat) (k : Nat) : Nat → Nat := fun i => if i < k then r i ^^^ mul m f (t i) else r i
theorem adK_next (m f : Nat) (r t : Nat → Nat) (k : Nat) : (fun i => if i = k then r k ^^^ mul m f (t k) else adK m f r t k i) = adK m f r t (k + 1) := by
  funext i
  unfold adK
  by_cases h : i = k
  · subst h; rw [if_pos rfl, if_pos (by omega)]
  · rw [if_neg h]
    by_cases h2 : i < k
    · rw [if_pos h2, if_pos (by omega)]
    · rw [if_neg h2, if_neg (by omega)]
theorem Turned.refl (g : Nat) (w : World) : Turned g w w := ⟨rfl, rfl, rfl, rfl, fun _ _ => rfl⟩
theorem Turned.trans {g : Nat} {a b c : World} (h : Turned g a b) (k : Turned g b c) : Turned g a c := ⟨k.os.trans h.os, k.tape.trans h.tape, k.output.trans h.output, k.size.trans h.size, fun i hi => (k.block i hi).trans (h.block i hi)⟩
theorem Turned.drewN (g : Nat) (w : World) (n : Nat) : Turned g w (w.drewN n) := ⟨rfl, rfl, rfl, rfl, fun _ _ => rfl⟩
theorem Turned.set (g : Nat) (w : World) (i : Nat) (u : Value) : Turned g w (w.setCell ⟨g, i, none⟩ u) := ⟨rfl, rfl, rfl, by simp [World.setCell], fun k hk => heap_setCell_other _ _ _ _ hk⟩

set_option maxHeartbeats 4000000 in
set_option maxRecDepth 100000 in
theorem radd_any (m f q : Nat) (hm : Fm m) (hf : f < 2 ^ m) (hq : q ≤ 1000) (r t : Nat → Nat) (hr : Vv m r) (ht : Vv m t) (A : Option Addr) (ca pm pr g : Nat) (w : World) (hT : Tabs w)
    (hs : Sl w w.heap.size A 1 q ((nl q t).map iv)) (hne : ∀ b o, A = some ⟨b, o, none⟩ → b ≠ g) (hpm : Blk w pm 3 [.int .i64 (m : Int)]) (hpr : Blk w pr 29 [.slice (some ⟨g, 0, none⟩) q q]) (hg : Blk w g 3 ((nl q r).map iv)) (hmg : pm ≠ g) (hrg : pr ≠ g) (hTg : 0 ≠ g) :
    Calls Tryd.prog 78 #[.slice A q ca, .int .i64 (f : Int), .pointer (some ⟨pm, 0, none⟩), .pointer (some ⟨pr, 0, none⟩)] w fun e w' => e = .returned (.tuple #[]) ∧ Blk w' g 3 ((nl q fun j => r j ^^^ mul m f (t j)).map iv) ∧ Turned g w w' := by
  have HS := hideIt hs
  have HT := hideIt hT
  have HM := hideIt hpm
  have HP := hideIt hpr
  have HG := hideIt hg
  have HNE := hideIt hne
  have HTG := hideIt hTg
  have HTV := hideIt ht
  have HRV := hideIt hr
  have HFM := hideIt hm
  have HF := hideIt hf
  have HMG := hideIt hmg
  have HRG := hideIt hrg
  clear hT hs hpm hpr hg hne hTg ht hr hm hf hmg hrg
  go_enter Tryd.func78, Tryd.ntmps78
  go_wp2_with fail
  go_loopg [12] q (fun gk s12 wr => ∃ j : Nat, j + gk = q ∧ s12 = .int .i64 (j : Int) ∧ Aside (Turned g w wr ∧ Blk wr g 3 ((nl q (adK m f r t j)).map iv)))
  case atStart => exact ⟨0, by omega, rfl, Turned.refl _ _, by have := HG.out; rwa [show nl q (adK m f r t 0) = nl q r from nl_congr fun k _ => by unfold adK; rw [if_neg (by omega)]]⟩
  case round =>
    obtain ⟨j, hj, rfl, HI⟩ := hrel
    obtain ⟨w2, rfl⟩ : ∃ x, x = wr := ⟨wr, rfl⟩
    by_cases hlt : j < q
    · have hbw : Below w.heap.size w w2 ∨ True := .inr trivial
      obtain ⟨b, o, u, hA, hb, hu, hc⟩ := HS.out.at_ hlt
      rw [iv_at hlt] at hu
      injection hu with hu
      subst hu
      subst hA
      have hct := (HI.out.1.cell (o := o + j) (HNE.out b o rfl)).trans hc
      have hcm := (HI.out.1.blk HM.out HMG.out).cell 0
      change w2.cell? ⟨pm, 0, none⟩ = some (.int .i64 (m : Int)) at hcm
      have hcr := (HI.out.1.blk HP.out HRG.out).cell 0
      change w2.cell? ⟨pr, 0, none⟩ = some (.slice (some ⟨g, 0, none⟩) q q) at hcr
      have hcg := HI.out.2.cell j
      rw [iv_at hlt, show adK m f r t j j = r j by unfold adK; rw [if_neg (by omega)]] at hcg
      have hfr := HI.out.2.free j
      have hTr : Tabs w2 := ⟨by have := HT.out.lo; rw [HI.out.1.size]; exact this, fun i hi => (HI.out.1.cell HTG.out).trans (HT.out.tab i hi)⟩
      have HTR := hideIt hTr
      have HMU := hideIt (fmul_is hTr HFM.out HF.out (HTV.out j) 0)
      have HAD := hideIt (fun W h k => fadd_is (w := W) h HFM.out (HRV.out j) (mul_lt HFM.out (t j) HF.out) k)
      have HI2 := hideIt HI.out
      have HNX := hideIt (adK_next m f r t j)
      have hinc := inc_c 3 j (by omega)
      have hji : (j : Int) < (q : Int) := by omega
      clear hTr HI hbw hb hc
      obtain ⟨y, hy⟩ : ∃ y, y = mul m f (t j) := ⟨_, rfl⟩
      rw [← hy] at HMU HAD HNX
      clear hy
      generalize hz : r j = z at *
      generalize t j = tj at *
      clear hz
      go_wp2_with (first
        | (go_at_call 79; refine HMU.out.mono ?_; rintro e w3 ⟨rfl, k1, rfl⟩))
      obtain ⟨w3, hw3⟩ : ∃ W, W = w2.drewN k1 := ⟨_, rfl⟩
      have H3 := hideIt (show Turned g w w3 ∧ Blk w3 g 3 ((nl q (adK m f r t j)).map iv) ∧ Tabs w3 by rw [hw3]; exact ⟨HI2.out.1.trans (Turned.drewN g w2 k1), HI2.out.2, HTR.out.drewN k1⟩)
      have ccm : w3.cell? ⟨pm, 0, none⟩ = some (.int .i64 (m : Int)) := by rw [hw3]; exact hcm
      have ccr : w3.cell? ⟨pr, 0, none⟩ = some (.slice (some ⟨g, 0, none⟩) q q) := by rw [hw3]; exact hcr
      have ccg : w3.cell? ⟨g, j, none⟩ = some (.int .i64 (z : Int)) := by rw [hw3]; exact hcg
      have cfr : w3.frozen? ⟨g, j, none⟩ = false := by rw [hw3]; exact hfr
      rw [← hw3]
      clear hw3 hcm hcr hcg hfr hct HMU HI2 HTR
      refine loads_begin_n 14 [(13, fun W => W.cell? ⟨pr, 0, none⟩ = some (.slice (some ⟨g, 0, none⟩) q q)), (13, fun W => W.cell? ⟨pm, 0, none⟩ = some (.int .i64 (m : Int))), (13, fun W => W.cell? ⟨g, j, none⟩ = some (.int .i64 (z : Int)))] rfl (by kernel_rfl) ?_
      refine wpAnyL_take (oi := ⟨some 25, _, _, _, _, _⟩) 0 13 (.slice (some ⟨g, 0, none⟩) q q) _ rfl (by kernel_rfl) (by kernel_rfl) (by kernel_rfl) (by kernel_rfl) (by kernel_rfl) (by kernel_rfl) (.head _) (fun _ _ _ h => h) (by kernel_rfl) (fun W' hW' => by (try dsimp only at hW'); go_simp) (by first | exact Hooks.add ccr (Hooks.add ccm (Hooks.add ccg (Hooks.nil _ _))) | exact HQ.out _ _) ?_
      try simp only [Act.put]
      try simp only [List.setIfInBounds_toArray]
      try simp only [List.set_cons_succ]
      try simp only [List.set_cons_zero]
      refine wpAnyL_move (oi := ⟨some 26, _, _, _, _, _⟩) 1 ?_ rfl (by kernel_rfl) (by kernel_rfl) (by kernel_rfl) (by kernel_rfl) (fun _ _ _ h => h) (by kernel_rfl) ?_ ((by first | exact Hooks.add ccr (Hooks.add ccm (Hooks.add ccg (Hooks.nil _ _))) | exact HQ.out _ _)) ?_
      rotate_left
      · intro W'; go_simp; first | done | with_reducible rfl
      try simp only [Act.put]
      try simp only [List.setIfInBounds_toArray]
      try simp only [List.set_cons_succ]
      try simp only [List.set_cons_zero]
      refine wpAnyL_take (oi := ⟨some 27, _, _, _, _, _⟩) 2 13 (.int .i64 (m : Int)) _ rfl (by kernel_rfl) (by kernel_rfl) (by kernel_rfl) (by kernel_rfl) (by kernel_rfl) (by kernel_rfl) (.tail _ (.head _)) (fun _ _ _ h => h) (by kernel_rfl) (fun W' hW' => by (try dsimp only at hW'); go_simp) (by first | exact Hooks.add ccr (Hooks.add ccm (Hooks.add ccg (Hooks.nil _ _))) | exact HQ.out _ _) ?_
      try simp only [Act.put]
      try simp only [List.setIfInBounds_toArray]
      try simp only [List.set_cons_succ]
      try simp only [List.set_cons_zero]
      refine wpAnyL_take (oi := ⟨some 28, _, _, _, _, _⟩) 3 13 (.slice (some ⟨g, 0, none⟩) q q) _ rfl (by kernel_rfl) (by kernel_rfl) (by kernel_rfl) (by kernel_rfl) (by kernel_rfl) (by kernel_rfl) (.head _) (fun _ _ _ h => h) (by kernel_rfl) (fun W' hW' => by (try dsimp only at hW'); go_simp) (by first | exact Hooks.add ccr (Hooks.add ccm (Hooks.add ccg (Hooks.nil _ _))) | exact HQ.out _ _) ?_
      try simp only [Act.put]
      try simp only [List.setIfInBounds_toArray]
      try simp only [List.set_cons_succ]
      try simp only [List.set_cons_zero]
      refine wpAnyL_move (oi := ⟨some 29, _, _, _, _, _⟩) 4 ?_ rfl (by kernel_rfl) (by kernel_rfl) (by kernel_rfl) (by kernel_rfl) (fun _ _ _ h => h) (by kernel_rfl) ?_ ((by first | exact Hooks.add ccr (Hooks.add ccm (Hooks.add ccg (Hooks.nil _ _))) | exact HQ.out _ _)) ?_
      rotate_left
      · intro W'; go_simp; first | done | with_reducible rfl
      try simp only [Act.put]
      try simp only [List.setIfInBounds_toArray]
      try simp only [List.set_cons_succ]
      try simp only [List.set_cons_zero]
      refine wpAnyL_move (oi := ⟨some 30, _, _, _, _, _⟩) 5 ?_ rfl (by kernel_rfl) (by kernel_rfl) (by kernel_rfl) (by kernel_rfl) (fun _ _ _ h => h) (by kernel_rfl) ?_ ((by first | exact Hooks.add ccr (Hooks.add ccm (Hooks.add ccg (Hooks.nil _ _))) | exact HQ.out _ _)) ?_
      rotate_left
      · intro W'; go_simp; first | done | with_reducible rfl
      try simp only [Act.put]
      try simp only [List.setIfInBounds_toArray]
      try simp only [List.set_cons_succ]
      try simp only [List.set_cons_zero]
      refine wpAnyL_take (oi := ⟨some 31, _, _, _, _, _⟩) 6 13 (.int .i64 (z : Int)) _ rfl (by kernel_rfl) (by kernel_rfl) (by kernel_rfl) (by kernel_rfl) (by kernel_rfl) (by kernel_rfl) (.tail _ (.tail _ (.head _))) (fun _ _ _ h => h) (by kernel_rfl) (fun W' hW' => by (try dsimp only at hW'); go_simp) (by first | exact Hooks.add ccr (Hooks.add ccm (Hooks.add ccg (Hooks.nil _ _))) | exact HQ.out _ _) ?_
      try simp only [Act.put]
      try simp only [List.setIfInBounds_toArray]
      try simp only [List.set_cons_succ]
      try simp only [List.set_cons_zero]
      refine wpAnyL_move (oi := ⟨some 32, _, _, _, _, _⟩) 7 ?_ rfl (by kernel_rfl) (by kernel_rfl) (by kernel_rfl) (by kernel_rfl) (fun _ _ _ h => h) (by kernel_rfl) ?_ ((by first | exact Hooks.add ccr (Hooks.add ccm (Hooks.add ccg (Hooks.nil _ _))) | exact HQ.out _ _)) ?_
      rotate_left
      · intro W'; go_simp; first | done | with_reducible rfl
      try simp only [Act.put]
      try simp only [List.setIfInBounds_toArray]
      try simp only [List.set_cons_succ]
      try simp only [List.set_cons_zero]
      obtain ⟨w4, hw4⟩ : ∃ W, W = w3.drew := ⟨_, rfl⟩
      have H4 := hideIt (show Turned g w w4 ∧ Blk w4 g 3 ((nl q (adK m f r t j)).map iv) ∧ Tabs w4 by rw [hw4]; exact ⟨H3.out.1.trans (Turned.drewN g w3 1), H3.out.2.1, H3.out.2.2.drewN 1⟩)
      have HQ : Hid (∀ bb n, Hooks [(13, fun W => W.cell? ⟨pr, 0, none⟩ = some (.slice (some ⟨g, 0, none⟩) q q)), (13, fun W => W.cell? ⟨pm, 0, none⟩ = some (.int .i64 (m : Int))), (13, fun W => W.cell? ⟨g, j, none⟩ = some (.int .i64 (z : Int)))] bb (w4.drewN n)) := hideIt (fun bb n => by rw [hw4]; exact Hooks.add ccr (Hooks.add ccm (Hooks.add ccg (Hooks.nil _ _))))
      have dfr : ∀ n, (w4.drewN n).frozen? ⟨g, j, none⟩ = false := fun n => by rw [hw4]; exact cfr
      have dcg : ∀ n, (w4.drewN n).cell? ⟨g, j, none⟩ = some (.int .i64 (z : Int)) := fun n => by rw [hw4]; exact ccg
      rw [← hw4]
      clear hw4 ccm ccr ccg cfr H3
      refine wpAnyL_one (o := ⟨some 33, _, _, _, _, _⟩) 8 (by kernel_rfl) rfl (fun K hK => ?_)
      go_wp2_with (first
        | (go_at_call 80; refine (HAD.out w4 H4.out.2.2 0).mono ?_; rintro e w5 ⟨rfl, k5, rfl⟩))
      refine hK _ _ (HQ.out _ _) ?_
      clear hK K
      refine wpAnyL_move (oi := ⟨some 24, _, _, _, _, _⟩) 9 ?_ rfl (by kernel_rfl) (by kernel_rfl) (by kernel_rfl) (by kernel_rfl) (fun _ _ _ h => h) (by kernel_rfl) ?_ ((by first | exact Hooks.add ccr (Hooks.add ccm (Hooks.add ccg (Hooks.nil _ _))) | exact HQ.out _ _)) ?_
      rotate_left
      · intro W'; go_simp; first | done | with_reducible rfl
      try simp only [Act.put]
      try simp only [List.setIfInBounds_toArray]
      try simp only [List.set_cons_succ]
      try simp only [List.set_cons_zero]
      refine wpAnyL_move (oi := ⟨some 34, _, _, _, _, _⟩) 10 ?_ rfl (by kernel_rfl) (by kernel_rfl) (by kernel_rfl) (by kernel_rfl) (fun _ _ _ h => h) (by kernel_rfl) ?_ ((by first | exact Hooks.add ccr (Hooks.add ccm (Hooks.add ccg (Hooks.nil _ _))) | exact HQ.out _ _)) ?_
      rotate_left
      · intro W'; go_simp; first | done | with_reducible rfl
      try simp only [Act.put]
      try simp only [List.setIfInBounds_toArray]
      try simp only [List.set_cons_succ]
      try simp only [List.set_cons_zero]
      refine wpAnyL_move (oi := ⟨some 35, _, _, _, _, _⟩) 11 ?_ rfl (by kernel_rfl) (by kernel_rfl) (by kernel_rfl) (by kernel_rfl) (fun _ _ _ h => h) (by kernel_rfl) ?_ ((by first | exact Hooks.add ccr (Hooks.add ccm (Hooks.add ccg (Hooks.nil _ _))) | exact HQ.out _ _)) ?_
      rotate_left
      · intro W'; go_simp; first | done | with_reducible rfl
      try simp only [Act.put]
      try simp only [List.setIfInBounds_toArray]
      try simp only [List.set_cons_succ]
      try simp only [List.set_cons_zero]
      refine wpAnyL_move (oi := ⟨some 36, _, _, _, _, _⟩) 12 ?_ rfl (by kernel_rfl) (by kernel_rfl) (by kernel_rfl) (by kernel_rfl) (fun _ _ _ h => h) (by kernel_rfl) ?_ ((by first | exact Hooks.add ccr (Hooks.add ccm (Hooks.add ccg (Hooks.nil _ _))) | exact HQ.out _ _)) ?_
      rotate_left
      · intro W'; go_simp; first | done | with_reducible rfl
      try simp only [Act.put]
      try simp only [List.setIfInBounds_toArray]
      try simp only [List.set_cons_succ]
      try simp only [List.set_cons_zero]
      refine loads_tail 13 (by kernel_rfl) (by kernel_rfl) (by kernel_rfl) (by kernel_rfl) ?_
      simp only [List.drop_succ_cons, List.drop_zero]
      have e1 := dfr k5
      have e2 := dcg k5
      go_wp2_with fail
      go_roundg (gk - 1)
      case measure => omega
      case rel =>
        refine ⟨j + 1, by omega, by go_num, (H4.out.1.trans (Turned.drewN g w4 k5)).trans (Turned.set g _ j _), ?_⟩
        have hs := Blk.store (w := w4.drewN k5) (show Blk (w4.drewN k5) g 3 ((nl q (adK m f r t j)).map iv) from H4.out.2.1) j (.int .i64 ((z ^^^ y : Nat) : Int))
        rw [set_nl _ j _ hlt, HNX.out] at hs
        exact hs
    · obtain rfl : j = q := by omega
      have hji : ¬ (j : Int) < (j : Int) := by omega
      have HI2 := hideIt HI.out
      clear HI
      go_wp2_with fail
      go_end0
      exact ⟨rfl, by have := HI2.out.2; rwa [show nl j (adK m f r t j) = nl j (fun i => r i ^^^ mul m f (t i)) from nl_congr fun k hk => by unfold adK; rw [if_pos hk]] at this, HI2.out.1⟩
end Go.Proofs.YtpjgmekpnlpjaaaDoor
