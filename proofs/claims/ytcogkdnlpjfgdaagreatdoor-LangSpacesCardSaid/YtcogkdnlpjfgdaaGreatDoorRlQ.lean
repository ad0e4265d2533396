/-
  The reference's parser, walked: code.
-/
import Derived.Test.YtcogkdnlpjfgdaaGreatDoorRlP
namespace Go.Proofs.YtcogkdnlpjfgdaaGreatDoor
open Go.RowKit
set_option linter.unusedVariables false
set_option linter.unusedSimpArgs false

theorem code_end {l : List Tk} {w W : World} {pb B g c sb : Nat} {S : PS} {nm : Tk} {vl : Value} {xs : List Ln} (h : CI l w W pb B g c sb S nm vl xs) :
    Blk (((((W.setCell ⟨w.heap.size, 0, none⟩ (sv nm.tx)).setCell ⟨w.heap.size, 1, none⟩ (.int .i64 (nm.ps : Int))).setCell ⟨w.heap.size, 2, none⟩ (.int .i64 (nm.kd : Int))).setCell ⟨w.heap.size, 3, none⟩ (.int .i64 (nm.n : Int))).setCell ⟨w.heap.size, 4, none⟩ vl) w.heap.size 87 [sv nm.tx, .int .i64 (nm.ps : Int), .int .i64 (nm.kd : Int), .int .i64 (nm.n : Int), vl] ∧
    RA l (((((W.setCell ⟨w.heap.size, 0, none⟩ (sv nm.tx)).setCell ⟨w.heap.size, 1, none⟩ (.int .i64 (nm.ps : Int))).setCell ⟨w.heap.size, 2, none⟩ (.int .i64 (nm.kd : Int))).setCell ⟨w.heap.size, 3, none⟩ (.int .i64 (nm.n : Int))).setCell ⟨w.heap.size, 4, none⟩ vl) pb (.slice (some ⟨g, 0, none⟩) l.length c) S ∧
    LnsR (((((W.setCell ⟨w.heap.size, 0, none⟩ (sv nm.tx)).setCell ⟨w.heap.size, 1, none⟩ (.int .i64 (nm.ps : Int))).setCell ⟨w.heap.size, 2, none⟩ (.int .i64 (nm.kd : Int))).setCell ⟨w.heap.size, 3, none⟩ (.int .i64 (nm.n : Int))).setCell ⟨w.heap.size, 4, none⟩ vl) w.heap.size vl xs ∧
    KeepT B [84] w (((((W.setCell ⟨w.heap.size, 0, none⟩ (sv nm.tx)).setCell ⟨w.heap.size, 1, none⟩ (.int .i64 (nm.ps : Int))).setCell ⟨w.heap.size, 2, none⟩ (.int .i64 (nm.kd : Int))).setCell ⟨w.heap.size, 3, none⟩ (.int .i64 (nm.n : Int))).setCell ⟨w.heap.size, 4, none⟩ vl) := by
  have b1 := h.rb.store 0 (sv nm.tx)
  have b2 := b1.store 1 (.int .i64 (nm.ps : Int))
  have b3 := b2.store 2 (.int .i64 (nm.kd : Int))
  have b4 := b3.store 3 (.int .i64 (nm.n : Int))
  have hne := blk_ne h.ra.blk h.rb (by decide)
  have n1 : 87 ≠ 46 := by decide
  have n2 : 87 ≠ 112 := by decide
  refine ⟨b4.store 4 vl, ⟨((((h.ra.blk.store_other hne).store_other hne).store_other hne).store_other hne).store_other hne, own_set (own_set (own_set (own_set (own_set h.ra.tok h.rb n1 0 _) b1 n1 1 _) b2 n1 2 _) b3 n1 3 _) b4 n1 4 _⟩,
    ((((h.ln.set h.rb n1 n2 0 _).set b1 n1 n2 1 _).set b2 n1 n2 2 _).set b3 n1 n2 3 _).set b4 n1 n2 4 _, ?_⟩
  exact h.kp.since (below_set (below_four (Nat.le_refl _) _ _ _ _) (Nat.le_refl _) _ _) h.hB

set_option maxHeartbeats 20000000 in
set_option maxRecDepth 100000 in
theorem rcode_any (l : List Tk) (hl : Lst l) (v : Value) (S : PS) (pb B : Nat) (hB : B ≤ pb) (w : World) (h : RA l w pb v S) (hi : S.i < l.length) (hil2 : l.length ≤ 100000) (hBw : B ≤ w.heap.size) :
    Calls Tryz.prog 46 #[.pointer (some ⟨pb, 0, none⟩)] w fun e w' => (∃ cs, e = .returned (.agg cs.toArray) ∧ ScR w' w.heap.size (codeP l S).1 cs) ∧ RA l w' pb v (codeP l S).2 ∧ KeepT B [84] w w' := by
  obtain ⟨g, c, rfl, hg, hne, hc⟩ := h.cur hi
  have HMU := hideIt (fun k S hi W hW hBW => rmust_any l (.slice (some ⟨g, 0, none⟩) l.length c) S pb B hB k W hW hi hil2 hBW)
  have HKI := hideIt (fun S hi W hW hBW => rkind_any l (.slice (some ⟨g, 0, none⟩) l.length c) S pb B hB 1 W hW hi hil2 hBW)
  have HON := hideIt (fun k S hi W hW hBW => rone_any l hl (.slice (some ⟨g, 0, none⟩) l.length c) S pb B hB k W hW hi hil2 hBW)
  have HNU := hideIt (fun S hi W hW hBW => rnumbers_any l hl (.slice (some ⟨g, 0, none⟩) l.length c) S pb B hB W hW hi hil2 hBW)
  have HIS := hideIt (fun k S hi W hW => ris_any l (.slice (some ⟨g, 0, none⟩) l.length c) S pb k W hW hi)
  have HL := hideIt hl
  obtain ⟨S1, hS1⟩ : ∃ S1, S1 = mustP l kCode S := ⟨_, rfl⟩
  obtain ⟨S2, hS2⟩ : ∃ S2, S2 = kindP l 1 S1 := ⟨_, rfl⟩
  obtain ⟨S3, hS3⟩ : ∃ S3, S3 = mustP l [123] S2 := ⟨_, rfl⟩
  obtain ⟨S4, hS4⟩ : ∃ S4, S4 = (oneP l kField S3).2 := ⟨_, rfl⟩
  obtain ⟨x4, hx4⟩ : ∃ x4, x4 = (oneP l kField S3).1 := ⟨_, rfl⟩
  obtain ⟨S5, hS5⟩ : ∃ S5, S5 = (oneP l kData S4).2 := ⟨_, rfl⟩
  obtain ⟨x5, hx5⟩ : ∃ x5, x5 = (oneP l kData S4).1 := ⟨_, rfl⟩
  have hi1 : S1.i < l.length := by rw [hS1]; exact mustP_lt hl _ hi
  have hi2 : S2.i < l.length := by rw [hS2]; exact kindP_lt hl (by decide) hi1
  have hi3 : S3.i < l.length := by rw [hS3]; exact mustP_lt hl _ hi2
  have hi4 : S4.i < l.length := by rw [hS4]; exact oneP_lt hl _ hi3
  have hi5 : S5.i < l.length := by rw [hS5]; exact oneP_lt hl _ hi4
  obtain ⟨R, hR⟩ : ∃ R, R = rowsG l (l.length + 1) true S5 [x4, x5] := ⟨_, rfl⟩
  obtain ⟨nm, hnm⟩ : ∃ nm, nm = cur l S1 := ⟨_, rfl⟩
  have hcode : codeP l S = (⟨nm, (endP l R).1⟩, mustP l [125] (endP l R).2) := by
    rw [hR, hx5, hx4, hS5, hS4, hS3, hS2, hnm, hS1]; rfl
  rw [hcode]
  have HRL : Hid (R.2.i < l.length) := by show R.2.i < _; rw [hR]; exact rowsG_lt hl _ _ _ _ hi5
  have HE1 := hideIt (HMU.out kCode S hi)
  have HE2 := hideIt (HKI.out S1 hi1)
  have HE3 := hideIt (HMU.out [123] S2 hi2)
  have HO4 := hideIt (HON.out kField S3 hi3)
  have HO5 := hideIt (HON.out kData S4 hi4)
  rw [← hS1] at HE1
  rw [← hS2, ← hnm] at HE2
  rw [← hS3] at HE3
  rw [← hS4, ← hx4] at HO4
  rw [← hS5, ← hx5] at HO5
  have HR := hideIt hR
  have HI5 := hideIt hi5
  have hll : l.length ≤ 100000 := hil2
  have HBW := hideIt hBw
  obtain ⟨w0, hw0⟩ : ∃ W, W = w.alloc (.cells #[.string ⟨#[]⟩, .int .i64 0, .int .i64 0, .int .i64 0, .slice none 0 0] 87) := ⟨_, rfl⟩
  have HM0 : Hid (RA l w0 pb (.slice (some ⟨g, 0, none⟩) l.length c) S) := by rw [hw0]; exact h.new _
  have HR0 : Hid (Blk w0 w.heap.size 87 [.string ⟨#[]⟩, .int .i64 0, .int .i64 0, .int .i64 0, .slice none 0 0]) := by rw [hw0]; exact Blk.new w _ [.string ⟨#[]⟩, .int .i64 0, .int .i64 0, .int .i64 0, .slice none 0 0]
  have HK0 : Hid (KeepT B [84] w w0) := by rw [hw0]; exact keepT_alloc (KeepT.refl _ _ _) hBw _
  have HZ0 : Hid (w.heap.size < w0.heap.size) := by rw [hw0]; show _ < _; simp
  have HW0 := hideIt hw0
  generalize cur l S = xc at *
  generalize cur l S2 = xb at *
  clear h hi hi1 hi2 hi3 hi4 hi5 hil2 hBw hB hl hg hne hc hcode hS1 hS2 hS3 hS4 hS5 hx4 hx5 hR hw0 hnm
  go_enter Tryz.func46, Tryz.ntmps46
  go_wp2_with (first
    | (go_at_call 70; rw [← HW0.out]; refine (HE1.out _ HM0.out (Nat.le_trans HBW.out HK0.out.size)).mono ?_; clear HE1; rintro e w1 ⟨rfl, hm, hk⟩; have HM1 := hideIt hm; have HR1 := hideIt (HR0.out.keepT hk (by decide)); have HK1 := hideIt (HK0.out.trans hk); have HZ1 := hideIt (Nat.lt_of_lt_of_le HZ0.out hk.size); clear hm hk)
    | (go_at_call 47; refine (HE2.out _ HM1.out (Nat.le_trans HBW.out HK1.out.size)).mono ?_; clear HE2; rintro e w2 ⟨rfl, hm, hk⟩; have HC2 : Hid (CI l w (w2.alloc (.cells #[sv nm.tx, .int .i64 (nm.ps : Int), .int .i64 (nm.kd : Int), .int .i64 (nm.n : Int), .slice none 0 0] 87)) pb B g c w2.heap.size S2 nm (.slice none 0 0) []) := ⟨hm.new _, LnsR.nil _ _, Blk.new w2 _ [sv nm.tx, .int .i64 (nm.ps : Int), .int .i64 (nm.kd : Int), .int .i64 (nm.n : Int), .slice none 0 0], (HR1.out.keepT hk (by decide)).alloc _, keepT_alloc (HK1.out.trans hk) HBW.out _, HBW.out, Nat.lt_of_lt_of_le HZ1.out hk.size⟩; clear hm hk)
    | (go_at_call 70; refine (HE3.out _ HC2.out.ra HC2.out.bsize).mono ?_; clear HE3; rintro e w3 ⟨rfl, hm, hk⟩; have HC3 := hideIt (HC2.out.call hm hk); clear hm hk))
  generalize w2.heap.size = sb at *
  generalize World.alloc w2 _ = w2' at *
  clear HM0 HR0 HK0 HZ0 HW0 HM1 HR1 HK1 HZ1 HC2
  have HDA4 := hideIt HC3.out.drawn
  have HDSA4 := hideIt HDA4.out.so
  refine loads_begin_n 8 [(6, (fun W => Blk W sb 87 [sv nm.tx, .int .i64 (nm.ps : Int), .int .i64 (nm.kd : Int), .int .i64 (nm.n : Int), .slice none 0 0]))] rfl (by kernel_rfl) ?_
  generalize hWD : World.drew _ = WD at HDA4 HDSA4 ⊢
  clear hWD
  refine wpAnyL_move (oi := ⟨some 17, _, _, _, _, _⟩) 0 ?_ rfl (by kernel_rfl) (by kernel_rfl) (by kernel_rfl) (by kernel_rfl) (fun _ _ _ h => h) (by kernel_rfl) ?_ (Hooks.add HDSA4.out (Hooks.nil _ _)) ?_
  rotate_left
  · intro W'; go_simp; first | done | with_reducible rfl
  try simp only [Act.put]
  try simp only [List.setIfInBounds_toArray]
  try simp only [List.set_cons_succ]
  try simp only [List.set_cons_zero]
  refine wpAnyL_take (oi := ⟨some 18, _, _, _, _, _⟩) 1 6 (.slice none 0 0) _ rfl (by kernel_rfl) (by kernel_rfl) (by kernel_rfl) (by kernel_rfl) (by kernel_rfl) (by kernel_rfl) (.head _) (fun _ _ _ h => h) (by kernel_rfl) (fun W' hW' => by have hW' : Blk W' sb 87 [sv nm.tx, .int .i64 (nm.ps : Int), .int .i64 (nm.kd : Int), .int .i64 (nm.n : Int), .slice none 0 0] := hW'; have q := hW'.cell 4; go_simp) (Hooks.add HDSA4.out (Hooks.nil _ _)) ?_
  try simp only [Act.put]
  try simp only [List.setIfInBounds_toArray]
  try simp only [List.set_cons_succ]
  try simp only [List.set_cons_zero]
  refine wpAnyL_move (oi := ⟨some 19, _, _, _, _, _⟩) 2 ?_ rfl (by kernel_rfl) (by kernel_rfl) (by kernel_rfl) (by kernel_rfl) (fun _ _ _ h => h) (by kernel_rfl) ?_ (Hooks.add HDSA4.out (Hooks.nil _ _)) ?_
  rotate_left
  · intro W'; go_simp; first | done | with_reducible rfl
  try simp only [Act.put]
  try simp only [List.setIfInBounds_toArray]
  try simp only [List.set_cons_succ]
  try simp only [List.set_cons_zero]
  refine wpAnyL_one 3 (by kernel_rfl) rfl (fun K hK => ?_)
  go_wp2_with (go_at_call 71; refine (HO4.out _ HDA4.out.ra HDA4.out.bsize).mono ?_; rintro e wbA4 ⟨⟨cs, rfl, hln⟩, hm, hk⟩; obtain ⟨va, vb, rfl, hva, hvb⟩ := hln; obtain ⟨Aa, ca, rfl, _, _⟩ := own_form hva; obtain ⟨Ab, cb, rfl, _, _⟩ := own_form hvb; have HCA4 := hideIt (HDA4.out.call hm hk); have HLA4 := hideIt ((show LnR wbA4 WD.heap.size _ _ from ⟨_, _, rfl, hva, hvb⟩).low HDA4.out.size); have HSA4 := hideIt HCA4.out.so; clear hm hk hva hvb)
  refine hK _ _ (Hooks.add HSA4.out (Hooks.nil _ _)) ?_
  clear hK K
  refine wpAnyL_one 4 (by kernel_rfl) rfl (fun K hK => ?_)
  go_wp2_with fail
  refine hK _ _ (Hooks.add (HSA4.out.alloc _) (Hooks.nil _ _)) ?_
  clear hK K
  refine wpAnyL_one 5 (by kernel_rfl) rfl (fun K hK => ?_)
  refine wpList_line rfl (.tmp 18) (.tmp 21) rfl w.heap.size HCA4.out.size _ _ HCA4.out.ln _ _ HLA4.out (by simp) rfl rfl ?_
  intro AnA4 nnA4 cnA4 w4 hl4 hb4 hk4 hr4
  have HPA4 := hideIt (HCA4.out.push hl4 hb4 hk4 hr4)
  have HTA4 := hideIt (hk4 _ _ _ (by decide) HCA4.out.so)
  have z4 := HTA4.out.cell 4
  have y4 := HTA4.out.free 4
  clear hl4 hb4 hk4 hr4
  go_wp2_with fail
  refine hK _ _ (Hooks.add HTA4.out (Hooks.nil _ _)) ?_
  clear hK K
  refine loads_tail 6 (by kernel_rfl) (by kernel_rfl) (by kernel_rfl) (by kernel_rfl) ?_
  simp only [List.drop_succ_cons, List.drop_zero]
  go_wp2_with fail
  generalize hW5 : World.setCell w4 _ _ = WA4 at *
  have HA4 := HPA4
  clear z4 y4 hW5 HTA4 HPA4 HSA4 HDA4 HDSA4 HCA4 HLA4
  have HDA5 := hideIt HA4.out.drawn
  have HDSA5 := hideIt HDA5.out.so
  refine loads_begin_n 8 [(6, (fun W => Blk W sb 87 [sv nm.tx, .int .i64 (nm.ps : Int), .int .i64 (nm.kd : Int), .int .i64 (nm.n : Int), .slice AnA4 nnA4 cnA4]))] rfl (by kernel_rfl) ?_
  generalize hWD : World.drew _ = WD at HDA5 HDSA5 ⊢
  clear hWD
  refine wpAnyL_move (oi := ⟨some 24, _, _, _, _, _⟩) 0 ?_ rfl (by kernel_rfl) (by kernel_rfl) (by kernel_rfl) (by kernel_rfl) (fun _ _ _ h => h) (by kernel_rfl) ?_ (Hooks.add HDSA5.out (Hooks.nil _ _)) ?_
  rotate_left
  · intro W'; go_simp; first | done | with_reducible rfl
  try simp only [Act.put]
  try simp only [List.setIfInBounds_toArray]
  try simp only [List.set_cons_succ]
  try simp only [List.set_cons_zero]
  refine wpAnyL_take (oi := ⟨some 25, _, _, _, _, _⟩) 1 6 (.slice AnA4 nnA4 cnA4) _ rfl (by kernel_rfl) (by kernel_rfl) (by kernel_rfl) (by kernel_rfl) (by kernel_rfl) (by kernel_rfl) (.head _) (fun _ _ _ h => h) (by kernel_rfl) (fun W' hW' => by have hW' : Blk W' sb 87 [sv nm.tx, .int .i64 (nm.ps : Int), .int .i64 (nm.kd : Int), .int .i64 (nm.n : Int), .slice AnA4 nnA4 cnA4] := hW'; have q := hW'.cell 4; go_simp) (Hooks.add HDSA5.out (Hooks.nil _ _)) ?_
  try simp only [Act.put]
  try simp only [List.setIfInBounds_toArray]
  try simp only [List.set_cons_succ]
  try simp only [List.set_cons_zero]
  refine wpAnyL_move (oi := ⟨some 26, _, _, _, _, _⟩) 2 ?_ rfl (by kernel_rfl) (by kernel_rfl) (by kernel_rfl) (by kernel_rfl) (fun _ _ _ h => h) (by kernel_rfl) ?_ (Hooks.add HDSA5.out (Hooks.nil _ _)) ?_
  rotate_left
  · intro W'; go_simp; first | done | with_reducible rfl
  try simp only [Act.put]
  try simp only [List.setIfInBounds_toArray]
  try simp only [List.set_cons_succ]
  try simp only [List.set_cons_zero]
  refine wpAnyL_one 3 (by kernel_rfl) rfl (fun K hK => ?_)
  go_wp2_with (go_at_call 71; refine (HO5.out _ HDA5.out.ra HDA5.out.bsize).mono ?_; rintro e wbA5 ⟨⟨cs, rfl, hln⟩, hm, hk⟩; obtain ⟨va, vb, rfl, hva, hvb⟩ := hln; obtain ⟨Aa, ca, rfl, _, _⟩ := own_form hva; obtain ⟨Ab, cb, rfl, _, _⟩ := own_form hvb; have HCA5 := hideIt (HDA5.out.call hm hk); have HLA5 := hideIt ((show LnR wbA5 WD.heap.size _ _ from ⟨_, _, rfl, hva, hvb⟩).low HDA5.out.size); have HSA5 := hideIt HCA5.out.so; clear hm hk hva hvb)
  refine hK _ _ (Hooks.add HSA5.out (Hooks.nil _ _)) ?_
  clear hK K
  refine wpAnyL_one 4 (by kernel_rfl) rfl (fun K hK => ?_)
  go_wp2_with fail
  refine hK _ _ (Hooks.add (HSA5.out.alloc _) (Hooks.nil _ _)) ?_
  clear hK K
  refine wpAnyL_one 5 (by kernel_rfl) rfl (fun K hK => ?_)
  refine wpList_line rfl (.tmp 25) (.tmp 28) rfl w.heap.size HCA5.out.size _ _ HCA5.out.ln _ _ HLA5.out (by simp) rfl rfl ?_
  intro AnA5 nnA5 cnA5 w4 hl4 hb4 hk4 hr4
  have HPA5 := hideIt (HCA5.out.push hl4 hb4 hk4 hr4)
  have HTA5 := hideIt (hk4 _ _ _ (by decide) HCA5.out.so)
  have z4 := HTA5.out.cell 4
  have y4 := HTA5.out.free 4
  clear hl4 hb4 hk4 hr4
  go_wp2_with fail
  refine hK _ _ (Hooks.add HTA5.out (Hooks.nil _ _)) ?_
  clear hK K
  refine loads_tail 6 (by kernel_rfl) (by kernel_rfl) (by kernel_rfl) (by kernel_rfl) ?_
  simp only [List.drop_succ_cons, List.drop_zero]
  go_wp2_with fail
  generalize hW5 : World.setCell w4 _ _ = WA5 at *
  have HA5 := HPA5
  clear z4 y4 hW5 HTA5 HPA5 HSA5 HDA5 HDSA5 HCA5 HLA5
  go_loopg [4] (l.length + 1) (fun gk s4 wr => ∃ (r : Nat) (S' : PS) (out : List Ln) (Al : Option Addr) (nl cl : Nat), s4 = .int .i64 (r : Int) ∧ r ≤ 100000 + 3 ∧ out.length + gk ≤ l.length + 3 ∧ r + gk ≤ l.length + 1 ∧ Aside (rowsG l gk (decide (r = 0)) S' out = R ∧ CI l w wr pb B g c sb S' nm (.slice Al nl cl) out ∧ S'.i < l.length ∧ (S'.bad < 0 → l.length + 1 ≤ gk + S'.i)))
  case atStart => exact ⟨0, S5, [x4, x5], _, _, _, rfl, by omega, by simp; omega, by omega, HR.out.symm, HA5.out, HI5.out, fun _ => by omega⟩
  case round =>
    obtain ⟨r, S', out, Al, nl, cl, rfl, hr1, hr2, hr3, HI⟩ := hrel
    have p2 := HI.out.2.1.ra.blk.cell 2
    have hr0 := i_eql 3 .i64 (r : Int) 0
    have hinc := inc_r 3 r (by omega)
    have HCR := hideIt HI.out.2.1
    have HIL := hideIt HI.out.2.2.1
    have HGE := hideIt HI.out.2.2.2
    have HIP := hideIt (HIS.out kParity S' HI.out.2.2.1)
    have HIQ := hideIt (HIS.out kLocal S' HI.out.2.2.1)
    have HRG := hideIt HI.out.1
    clear HI
    -- behind the loop
    have TAIL : R = (out, S') → True := fun _ => trivial
    clear TAIL
    by_cases hb : S'.bad < 0
    · obtain ⟨g1, hg1⟩ : ∃ g1, gk = g1 + 1 := ⟨gk - 1, by have := HGE.out hb; have := HIL.out; omega⟩
      have HG1 := hideIt hg1
      have HRU : Hid (rowsG l gk (decide (r = 0)) S' out = if S'.bad < 0 ∧ (decide (r = 0) = true ∨ isP l kParity S' = true ∨ isP l kLocal S' = true) then rowsG l g1 false (rowP l S').2 (out ++ [(rowP l S').1]) else (out, S')) := by show _ = _; rw [hg1, rowsG]
      have HROW : Hid (rowP l S' = if isP l kLocal S' then
          (⟨cur l S', (numsP l (mustP l kLocal S')).1, (numsP l (mustP l [58] (numsP l (mustP l kLocal S')).2)).1⟩, mustP l [59] (numsP l (mustP l [58] (numsP l (mustP l kLocal S')).2)).2)
        else (⟨cur l S', (numsP l (mustP l kParity S')).1, []⟩, mustP l [59] (numsP l (mustP l kParity S')).2)) := rfl
      have HRI := hideIt (@row_i2 l S')
      have HRT := hideIt (rowP_lt HL.out HIL.out)
      clear hg1
      have HZR : Hid (decide ((r : Int) = 0) = decide (r = 0)) := by show _ = _; rw [Bool.eq_iff_iff, decide_eq_true_iff, decide_eq_true_iff]; omega
      rw [HZR.out] at hr0
      generalize hf : decide (r = 0) = first at *
      have HF := hideIt hf
      clear hf
      -- the states of a row
      cases hbl : isP l kLocal S' with
      | true =>
        have hrow := HROW.out
        rw [hbl, if_pos rfl] at hrow
        obtain ⟨T1, hT1⟩ : ∃ T, T = mustP l kLocal S' := ⟨_, rfl⟩
        have ht1 : T1.i < l.length := by rw [hT1]; exact mustP_lt HL.out _ HIL.out
        have HM1 := hideIt (HMU.out kLocal S' HIL.out)
        rw [← hT1] at hrow HM1
        have HN1 := hideIt (HNU.out T1 ht1)
        obtain ⟨T2, hT2⟩ : ∃ T, T = (numsP l T1).2 := ⟨_, rfl⟩
        obtain ⟨la, hla⟩ : ∃ T, T = (numsP l T1).1 := ⟨_, rfl⟩
        have ht2 : T2.i < l.length := by rw [hT2]; exact numsP_lt HL.out ht1
        rw [← hT2, ← hla] at hrow HN1
        obtain ⟨T3, hT3⟩ : ∃ T, T = mustP l [58] T2 := ⟨_, rfl⟩
        have ht3 : T3.i < l.length := by rw [hT3]; exact mustP_lt HL.out _ ht2
        have HM2 := hideIt (HMU.out [58] T2 ht2)
        rw [← hT3] at hrow HM2
        have HN2 := hideIt (HNU.out T3 ht3)
        obtain ⟨T4, hT4⟩ : ∃ T, T = (numsP l T3).2 := ⟨_, rfl⟩
        obtain ⟨lb, hlb⟩ : ∃ T, T = (numsP l T3).1 := ⟨_, rfl⟩
        have ht4 : T4.i < l.length := by rw [hT4]; exact numsP_lt HL.out ht3
        rw [← hT4, ← hlb] at hrow HN2
        have HM3 := hideIt (HMU.out [59] T4 ht4)
        generalize cur l T2 = dk1 at *
        generalize cur l T4 = dk2 at *
        rw [hrow] at HRU HRI HRT
        obtain ⟨T5, hT5⟩ : ∃ T, T = mustP l [59] T4 := ⟨_, rfl⟩
        rw [← hT5] at HRU HRI HRT HM3
        generalize cur l S' = kx at *
        have HBL := hideIt hbl
        rw [hbl] at HIQ
        clear hrow hT1 hT2 hla hT3 hT4 hlb hT5 ht1 ht2 ht3 ht4 hbl
        have HST : Hid (rowsG l g1 false T5 (out ++ [⟨kx, la, lb⟩]) = R) := by
          have := HRG.out
          rw [HRU.out, if_pos ⟨hb, .inr (.inr HBL.out)⟩] at this
          exact this
        cases first with
        | true =>
          clear HIP
          have hb0 := hb
          go_wp2_with (first
            | (go_at_call 72; refine (HIQ.out _ HCR.out.ra).mono ?_; rintro e wi ⟨rfl, hbw⟩; have HJ1 := hideIt (HCR.out.asked hbw); clear hbw)
            | (go_at_call 70; refine (HM1.out _ HJ1.out.ra HJ1.out.bsize).mono ?_; clear HM1; rintro e wm ⟨rfl, hm, hk⟩; have HJ2 := hideIt (HJ1.out.call hm hk); have HX2 := hideIt (Blk.new wm 46 (rtC kx)); have HJ3 := hideIt (HJ2.out.new (.cells (rtC kx).toArray 46)); clear hm hk)
            | (go_at_call 73; refine (HN1.out _ HJ3.out.ra HJ3.out.bsize).mono ?_; clear HN1; rintro e wn ⟨⟨Aa, ca, rfl, hla⟩, hm, hk⟩; have HJ4 := hideIt (HJ3.out.call hm hk); have HX4 := hideIt (HX2.out.keepT hk (by decide)); have HLA4 := hideIt (own_low hla HJ3.out.size); clear hm hk hla)
            | (go_at_call 70; refine (HM2.out _ HJ4.out.ra HJ4.out.bsize).mono ?_; clear HM2; rintro e wm ⟨rfl, hm, hk⟩; have HJ5 := hideIt (HJ4.out.call hm hk); have HX5 := hideIt (HX4.out.keepT hk (by decide)); have HLA5 := hideIt (own_keepT HLA4.out hk (by decide)); clear hm hk)
            | (go_at_call 73; refine (HN2.out _ HJ5.out.ra HJ5.out.bsize).mono ?_; clear HN2; rintro e wn2 ⟨⟨Ab, cb, rfl, hlb⟩, hm, hk⟩; have HJ6 := hideIt (HJ5.out.call hm hk); have hx6 := HX5.out.keepT hk (by decide); have x0 := hx6.cell 0; have x1 := hx6.cell 1; have x2 := hx6.cell 2; have x3 := hx6.cell 3; have s4 := HJ6.out.so.cell 4; have HLN6 := hideIt (show LnR wn2 w.heap.size ⟨kx, la, lb⟩ [sv kx.tx, .int .i64 (kx.ps : Int), .int .i64 (kx.kd : Int), .int .i64 (kx.n : Int), .slice Aa la.length ca, .slice Ab lb.length cb] from ⟨_, _, rfl, own_keepT HLA5.out hk (by decide), own_low hlb HJ5.out.size⟩); clear hm hk hlb hx6)
            | ((with_reducible refine at_append ?_); refine wpList_line rfl (.tmp 61) (.tmp 66) rfl w.heap.size HJ6.out.size _ _ HJ6.out.ln _ _ HLN6.out (by omega) rfl rfl ?_; intro A9 n9 c9 w4 hl4 hb4 hk4 hr4; have HJ7 := hideIt (HJ6.out.push hl4 hb4 hk4 hr4); have ht4 := hk4 _ _ _ (by decide) HJ6.out.so; have z4 := ht4.cell 4; have y4 := ht4.free 4; clear hl4 hb4 hk4 hr4 ht4)
            | (go_at_call 70; refine (HM3.out _ HJ7.out.ra HJ7.out.bsize).mono ?_; clear HM3; rintro e wm ⟨rfl, hm, hk⟩; have HJ9 := hideIt (HJ7.out.call hm hk); clear hm hk))
          go_roundg g1
          case measure => have := HG1.out; omega
          case rel =>
            refine ⟨r + 1, T5, out ++ [⟨kx, la, lb⟩], _, _, _, by go_num, by omega, by have := HG1.out; simp; omega, by have := HG1.out; omega, ?_, HJ9.out, HRT.out, fun hq => ?_⟩
            · rw [decide_eq_false (by omega)]; exact HST.out
            · have h1 := HRI.out hq
              have h2 := HGE.out hb0
              have := HG1.out
              omega
        | false =>
          cases hbp : isP l kParity S' with
          | true =>
            rw [hbp] at HIP
            clear hbp
            have hb0 := hb
            go_wp2_with (first
              | (go_at_call 72; refine (HIP.out _ HCR.out.ra).mono ?_; clear HIP; rintro e wi ⟨rfl, hbw⟩; have HJ0 := hideIt (HCR.out.asked hbw); clear hbw)
              | (go_at_call 72; refine (HIQ.out _ HJ0.out.ra).mono ?_; clear HIQ; rintro e wi ⟨rfl, hbw⟩; have HJ1 := hideIt (HJ0.out.asked hbw); clear hbw)
              | (go_at_call 70; refine (HM1.out _ HJ1.out.ra HJ1.out.bsize).mono ?_; clear HM1; rintro e wm ⟨rfl, hm, hk⟩; have HJ2 := hideIt (HJ1.out.call hm hk); have HX2 := hideIt (Blk.new wm 46 (rtC kx)); have HJ3 := hideIt (HJ2.out.new (.cells (rtC kx).toArray 46)); clear hm hk)
              | (go_at_call 73; refine (HN1.out _ HJ3.out.ra HJ3.out.bsize).mono ?_; clear HN1; rintro e wn ⟨⟨Aa, ca, rfl, hla⟩, hm, hk⟩; have HJ4 := hideIt (HJ3.out.call hm hk); have HX4 := hideIt (HX2.out.keepT hk (by decide)); have HLA4 := hideIt (own_low hla HJ3.out.size); clear hm hk hla)
              | (go_at_call 70; refine (HM2.out _ HJ4.out.ra HJ4.out.bsize).mono ?_; clear HM2; rintro e wm ⟨rfl, hm, hk⟩; have HJ5 := hideIt (HJ4.out.call hm hk); have HX5 := hideIt (HX4.out.keepT hk (by decide)); have HLA5 := hideIt (own_keepT HLA4.out hk (by decide)); clear hm hk)
              | (go_at_call 73; refine (HN2.out _ HJ5.out.ra HJ5.out.bsize).mono ?_; clear HN2; rintro e wn2 ⟨⟨Ab, cb, rfl, hlb⟩, hm, hk⟩; have HJ6 := hideIt (HJ5.out.call hm hk); have hx6 := HX5.out.keepT hk (by decide); have x0 := hx6.cell 0; have x1 := hx6.cell 1; have x2 := hx6.cell 2; have x3 := hx6.cell 3; have s4 := HJ6.out.so.cell 4; have HLN6 := hideIt (show LnR wn2 w.heap.size ⟨kx, la, lb⟩ [sv kx.tx, .int .i64 (kx.ps : Int), .int .i64 (kx.kd : Int), .int .i64 (kx.n : Int), .slice Aa la.length ca, .slice Ab lb.length cb] from ⟨_, _, rfl, own_keepT HLA5.out hk (by decide), own_low hlb HJ5.out.size⟩); clear hm hk hlb hx6)
              | ((with_reducible refine at_append ?_); refine wpList_line rfl (.tmp 61) (.tmp 66) rfl w.heap.size HJ6.out.size _ _ HJ6.out.ln _ _ HLN6.out (by omega) rfl rfl ?_; intro A9 n9 c9 w4 hl4 hb4 hk4 hr4; have HJ7 := hideIt (HJ6.out.push hl4 hb4 hk4 hr4); have ht4 := hk4 _ _ _ (by decide) HJ6.out.so; have z4 := ht4.cell 4; have y4 := ht4.free 4; clear hl4 hb4 hk4 hr4 ht4)
              | (go_at_call 70; refine (HM3.out _ HJ7.out.ra HJ7.out.bsize).mono ?_; clear HM3; rintro e wm ⟨rfl, hm, hk⟩; have HJ9 := hideIt (HJ7.out.call hm hk); clear hm hk))
            go_roundg g1
            case measure => have := HG1.out; omega
            case rel =>
              refine ⟨r + 1, T5, out ++ [⟨kx, la, lb⟩], _, _, _, by go_num, by omega, by have := HG1.out; simp; omega, by have := HG1.out; omega, ?_, HJ9.out, HRT.out, fun hq => ?_⟩
              · rw [decide_eq_false (by omega)]; exact HST.out
              · have h1 := HRI.out hq
                have h2 := HGE.out hb0
                have := HG1.out
                omega
          | false =>
            rw [hbp] at HIP
            clear hbp
            have hb0 := hb
            go_wp2_with (first
              | (go_at_call 72; refine (HIP.out _ HCR.out.ra).mono ?_; clear HIP; rintro e wi ⟨rfl, hbw⟩; have HJ0 := hideIt (HCR.out.asked hbw); clear hbw)
              | (go_at_call 72; refine (HIQ.out _ HJ0.out.ra).mono ?_; have HIQ2 := HIQ; clear HIQ; rintro e wi ⟨rfl, hbw⟩; have HJ0b := hideIt (HJ0.out.asked hbw); clear hbw)
              | (go_at_call 72; refine (HIQ2.out _ HJ0b.out.ra).mono ?_; clear HIQ2; rintro e wi ⟨rfl, hbw⟩; have HJ1 := hideIt (HJ0b.out.asked hbw); clear hbw)
              | (go_at_call 70; refine (HM1.out _ HJ1.out.ra HJ1.out.bsize).mono ?_; clear HM1; rintro e wm ⟨rfl, hm, hk⟩; have HJ2 := hideIt (HJ1.out.call hm hk); have HX2 := hideIt (Blk.new wm 46 (rtC kx)); have HJ3 := hideIt (HJ2.out.new (.cells (rtC kx).toArray 46)); clear hm hk)
              | (go_at_call 73; refine (HN1.out _ HJ3.out.ra HJ3.out.bsize).mono ?_; clear HN1; rintro e wn ⟨⟨Aa, ca, rfl, hla⟩, hm, hk⟩; have HJ4 := hideIt (HJ3.out.call hm hk); have HX4 := hideIt (HX2.out.keepT hk (by decide)); have HLA4 := hideIt (own_low hla HJ3.out.size); clear hm hk hla)
              | (go_at_call 70; refine (HM2.out _ HJ4.out.ra HJ4.out.bsize).mono ?_; clear HM2; rintro e wm ⟨rfl, hm, hk⟩; have HJ5 := hideIt (HJ4.out.call hm hk); have HX5 := hideIt (HX4.out.keepT hk (by decide)); have HLA5 := hideIt (own_keepT HLA4.out hk (by decide)); clear hm hk)
              | (go_at_call 73; refine (HN2.out _ HJ5.out.ra HJ5.out.bsize).mono ?_; clear HN2; rintro e wn2 ⟨⟨Ab, cb, rfl, hlb⟩, hm, hk⟩; have HJ6 := hideIt (HJ5.out.call hm hk); have hx6 := HX5.out.keepT hk (by decide); have x0 := hx6.cell 0; have x1 := hx6.cell 1; have x2 := hx6.cell 2; have x3 := hx6.cell 3; have s4 := HJ6.out.so.cell 4; have HLN6 := hideIt (show LnR wn2 w.heap.size ⟨kx, la, lb⟩ [sv kx.tx, .int .i64 (kx.ps : Int), .int .i64 (kx.kd : Int), .int .i64 (kx.n : Int), .slice Aa la.length ca, .slice Ab lb.length cb] from ⟨_, _, rfl, own_keepT HLA5.out hk (by decide), own_low hlb HJ5.out.size⟩); clear hm hk hlb hx6)
              | ((with_reducible refine at_append ?_); refine wpList_line rfl (.tmp 61) (.tmp 66) rfl w.heap.size HJ6.out.size _ _ HJ6.out.ln _ _ HLN6.out (by omega) rfl rfl ?_; intro A9 n9 c9 w4 hl4 hb4 hk4 hr4; have HJ7 := hideIt (HJ6.out.push hl4 hb4 hk4 hr4); have ht4 := hk4 _ _ _ (by decide) HJ6.out.so; have z4 := ht4.cell 4; have y4 := ht4.free 4; clear hl4 hb4 hk4 hr4 ht4)
              | (go_at_call 70; refine (HM3.out _ HJ7.out.ra HJ7.out.bsize).mono ?_; clear HM3; rintro e wm ⟨rfl, hm, hk⟩; have HJ9 := hideIt (HJ7.out.call hm hk); clear hm hk))
            go_roundg g1
            case measure => have := HG1.out; omega
            case rel =>
              refine ⟨r + 1, T5, out ++ [⟨kx, la, lb⟩], _, _, _, by go_num, by omega, by have := HG1.out; simp; omega, by have := HG1.out; omega, ?_, HJ9.out, HRT.out, fun hq => ?_⟩
              · rw [decide_eq_false (by omega)]; exact HST.out
              · have h1 := HRI.out hq
                have h2 := HGE.out hb0
                have := HG1.out
                omega
      | false =>
        have hrow := HROW.out
        rw [hbl, if_neg (by decide)] at hrow
        obtain ⟨T1, hT1⟩ : ∃ T, T = mustP l kParity S' := ⟨_, rfl⟩
        have ht1 : T1.i < l.length := by rw [hT1]; exact mustP_lt HL.out _ HIL.out
        have HM1 := hideIt (HMU.out kParity S' HIL.out)
        rw [← hT1] at hrow HM1
        have HN1 := hideIt (HNU.out T1 ht1)
        obtain ⟨T2, hT2⟩ : ∃ T, T = (numsP l T1).2 := ⟨_, rfl⟩
        obtain ⟨la, hla⟩ : ∃ T, T = (numsP l T1).1 := ⟨_, rfl⟩
        have ht2 : T2.i < l.length := by rw [hT2]; exact numsP_lt HL.out ht1
        rw [← hT2, ← hla] at hrow HN1
        have HM3 := hideIt (HMU.out [59] T2 ht2)
        generalize cur l T2 = dk1 at *
        rw [hrow] at HRU HRI HRT
        obtain ⟨T5, hT5⟩ : ∃ T, T = mustP l [59] T2 := ⟨_, rfl⟩
        rw [← hT5] at HRU HRI HRT HM3
        generalize cur l S' = kx at *
        have HBL := hideIt hbl
        rw [hbl] at HIQ
        clear hrow hT1 hT2 hla hT5 ht1 ht2 hbl
        cases first with
        | true =>
          have HST : Hid (rowsG l g1 false T5 (out ++ [⟨kx, la, []⟩]) = R) := by
            have := HRG.out
            rw [HRU.out, if_pos ⟨hb, .inl rfl⟩] at this
            exact this
          clear HIP
          have hb0 := hb
          go_wp2_with (first
            | (go_at_call 72; refine (HIQ.out _ HCR.out.ra).mono ?_; rintro e wi ⟨rfl, hbw⟩; have HJ1 := hideIt (HCR.out.asked hbw); clear hbw)
            | (go_at_call 70; refine (HM1.out _ HJ1.out.ra HJ1.out.bsize).mono ?_; clear HM1; rintro e wm ⟨rfl, hm, hk⟩; have HJ2 := hideIt (HJ1.out.call hm hk); have HX2 := hideIt (Blk.new wm 46 (rtC kx)); have HJ3 := hideIt (HJ2.out.new (.cells (rtC kx).toArray 46)); clear hm hk)
            | (go_at_call 73; refine (HN1.out _ HJ3.out.ra HJ3.out.bsize).mono ?_; clear HN1; rintro e wn ⟨⟨Aa, ca, rfl, hla⟩, hm, hk⟩; have HJ6 := hideIt (HJ3.out.call hm hk); have hx6 := HX2.out.keepT hk (by decide); have x0 := hx6.cell 0; have x1 := hx6.cell 1; have x2 := hx6.cell 2; have x3 := hx6.cell 3; have s4 := HJ6.out.so.cell 4; have HLN6 := hideIt (show LnR wn w.heap.size ⟨kx, la, []⟩ [sv kx.tx, .int .i64 (kx.ps : Int), .int .i64 (kx.kd : Int), .int .i64 (kx.n : Int), .slice Aa la.length ca, .slice none 0 0] from ⟨_, _, rfl, own_low hla HJ3.out.size, RtS.nil _ _⟩); clear hm hk hla hx6)
            | ((with_reducible refine at_append ?_); refine wpList_line rfl (.tmp 74) (.tmp 78) rfl w.heap.size HJ6.out.size _ _ HJ6.out.ln _ _ HLN6.out (by omega) rfl rfl ?_; intro A9 n9 c9 w4 hl4 hb4 hk4 hr4; have HJ7 := hideIt (HJ6.out.push hl4 hb4 hk4 hr4); have ht4 := hk4 _ _ _ (by decide) HJ6.out.so; have z4 := ht4.cell 4; have y4 := ht4.free 4; clear hl4 hb4 hk4 hr4 ht4)
            | (go_at_call 70; refine (HM3.out _ HJ7.out.ra HJ7.out.bsize).mono ?_; clear HM3; rintro e wm ⟨rfl, hm, hk⟩; have HJ9 := hideIt (HJ7.out.call hm hk); clear hm hk))
          go_roundg g1
          case measure => have := HG1.out; omega
          case rel =>
            refine ⟨r + 1, T5, out ++ [⟨kx, la, []⟩], _, _, _, by go_num, by omega, by have := HG1.out; simp; omega, by have := HG1.out; omega, ?_, HJ9.out, HRT.out, fun hq => ?_⟩
            · rw [decide_eq_false (by omega)]; exact HST.out
            · have h1 := HRI.out hq
              have h2 := HGE.out hb0
              have := HG1.out
              omega
        | false =>
          cases hbp : isP l kParity S' with
          | true =>
            have HST : Hid (rowsG l g1 false T5 (out ++ [⟨kx, la, []⟩]) = R) := by
              have := HRG.out
              rw [HRU.out, if_pos ⟨hb, .inr (.inl hbp)⟩] at this
              exact this
            rw [hbp] at HIP
            clear hbp
            have hb0 := hb
            go_wp2_with (first
              | (go_at_call 72; refine (HIP.out _ HCR.out.ra).mono ?_; clear HIP; rintro e wi ⟨rfl, hbw⟩; have HJ0 := hideIt (HCR.out.asked hbw); clear hbw)
              | (go_at_call 72; refine (HIQ.out _ HJ0.out.ra).mono ?_; clear HIQ; rintro e wi ⟨rfl, hbw⟩; have HJ1 := hideIt (HJ0.out.asked hbw); clear hbw)
              | (go_at_call 70; refine (HM1.out _ HJ1.out.ra HJ1.out.bsize).mono ?_; clear HM1; rintro e wm ⟨rfl, hm, hk⟩; have HJ2 := hideIt (HJ1.out.call hm hk); have HX2 := hideIt (Blk.new wm 46 (rtC kx)); have HJ3 := hideIt (HJ2.out.new (.cells (rtC kx).toArray 46)); clear hm hk)
              | (go_at_call 73; refine (HN1.out _ HJ3.out.ra HJ3.out.bsize).mono ?_; clear HN1; rintro e wn ⟨⟨Aa, ca, rfl, hla⟩, hm, hk⟩; have HJ6 := hideIt (HJ3.out.call hm hk); have hx6 := HX2.out.keepT hk (by decide); have x0 := hx6.cell 0; have x1 := hx6.cell 1; have x2 := hx6.cell 2; have x3 := hx6.cell 3; have s4 := HJ6.out.so.cell 4; have HLN6 := hideIt (show LnR wn w.heap.size ⟨kx, la, []⟩ [sv kx.tx, .int .i64 (kx.ps : Int), .int .i64 (kx.kd : Int), .int .i64 (kx.n : Int), .slice Aa la.length ca, .slice none 0 0] from ⟨_, _, rfl, own_low hla HJ3.out.size, RtS.nil _ _⟩); clear hm hk hla hx6)
              | ((with_reducible refine at_append ?_); refine wpList_line rfl (.tmp 74) (.tmp 78) rfl w.heap.size HJ6.out.size _ _ HJ6.out.ln _ _ HLN6.out (by omega) rfl rfl ?_; intro A9 n9 c9 w4 hl4 hb4 hk4 hr4; have HJ7 := hideIt (HJ6.out.push hl4 hb4 hk4 hr4); have ht4 := hk4 _ _ _ (by decide) HJ6.out.so; have z4 := ht4.cell 4; have y4 := ht4.free 4; clear hl4 hb4 hk4 hr4 ht4)
              | (go_at_call 70; refine (HM3.out _ HJ7.out.ra HJ7.out.bsize).mono ?_; clear HM3; rintro e wm ⟨rfl, hm, hk⟩; have HJ9 := hideIt (HJ7.out.call hm hk); clear hm hk))
            go_roundg g1
            case measure => have := HG1.out; omega
            case rel =>
              refine ⟨r + 1, T5, out ++ [⟨kx, la, []⟩], _, _, _, by go_num, by omega, by have := HG1.out; simp; omega, by have := HG1.out; omega, ?_, HJ9.out, HRT.out, fun hq => ?_⟩
              · rw [decide_eq_false (by omega)]; exact HST.out
              · have h1 := HRI.out hq
                have h2 := HGE.out hb0
                have := HG1.out
                omega
          | false =>
            have HST : Hid (R = (out, S')) := by
              have := HRG.out
              rw [HRU.out, if_neg (fun q => by rcases q.2 with q | q | q; exact absurd q (by decide); exact absurd (hbp.symm.trans q) (by decide); exact absurd (HBL.out.symm.trans q) (by decide))] at this
              exact this.symm
            rw [hbp] at HIP
            clear hbp
            have HRS := HST.out
            have HDI := hideIt (HIS.out kDomain S' HIL.out)
            cases hd : isP l kDomain S' with
            | true =>
              have HEP : Hid (endP l R = (out ++ [(oneP l kDomain S').1], (oneP l kDomain S').2)) := by show _ = _; rw [HRS]; unfold endP; dsimp only; rw [hd, if_pos rfl]
              have HO6 := hideIt (HON.out kDomain S' HIL.out)
              have HI6 := hideIt (oneP_lt HL.out kDomain HIL.out)
              obtain ⟨S6, hS6⟩ : ∃ T, T = (oneP l kDomain S').2 := ⟨_, rfl⟩
              obtain ⟨x6, hx6⟩ : ∃ T, T = (oneP l kDomain S').1 := ⟨_, rfl⟩
              rw [← hS6, ← hx6] at HEP HO6
              rw [← hS6] at HI6
              rw [hd] at HDI
              have HMF := hideIt (HMU.out [125] S6 HI6.out)
              generalize cur l S6 = dkz at *
              have HQ := hideIt HEP.out
              clear hS6 hx6 hd HRS
              go_wp2_with (first
                | (go_at_call 72; refine (HIP.out _ HCR.out.ra).mono ?_; clear HIP; rintro e wi ⟨rfl, hbw⟩; have HJ0 := hideIt (HCR.out.asked hbw); clear hbw)
                | (go_at_call 72; refine (HIQ.out _ HJ0.out.ra).mono ?_; clear HIQ; rintro e wi ⟨rfl, hbw⟩; have HJE := hideIt (HJ0.out.asked hbw); clear hbw)
                | (go_at_call 72; refine (HDI.out _ HJE.out.ra).mono ?_; clear HDI; rintro e wi ⟨rfl, hbw⟩; have HJD := hideIt (HJE.out.asked hbw); clear hbw))
              have HDA6 := hideIt HJD.out.drawn
              have HDSA6 := hideIt HDA6.out.so
              refine loads_begin_n 8 [(6, (fun W => Blk W sb 87 [sv nm.tx, .int .i64 (nm.ps : Int), .int .i64 (nm.kd : Int), .int .i64 (nm.n : Int), .slice Al nl cl]))] rfl (by kernel_rfl) ?_
              generalize hWD : World.drew _ = WD at HDA6 HDSA6 ⊢
              clear hWD
              refine wpAnyL_move (oi := ⟨some 85, _, _, _, _, _⟩) 0 ?_ rfl (by kernel_rfl) (by kernel_rfl) (by kernel_rfl) (by kernel_rfl) (fun _ _ _ h => h) (by kernel_rfl) ?_ (Hooks.add HDSA6.out (Hooks.nil _ _)) ?_
              rotate_left
              · intro W'; go_simp; first | done | with_reducible rfl
              try simp only [Act.put]
              try simp only [List.setIfInBounds_toArray]
              try simp only [List.set_cons_succ]
              try simp only [List.set_cons_zero]
              refine wpAnyL_take (oi := ⟨some 86, _, _, _, _, _⟩) 1 6 (.slice Al nl cl) _ rfl (by kernel_rfl) (by kernel_rfl) (by kernel_rfl) (by kernel_rfl) (by kernel_rfl) (by kernel_rfl) (.head _) (fun _ _ _ h => h) (by kernel_rfl) (fun W' hW' => by have hW' : Blk W' sb 87 [sv nm.tx, .int .i64 (nm.ps : Int), .int .i64 (nm.kd : Int), .int .i64 (nm.n : Int), .slice Al nl cl] := hW'; have q := hW'.cell 4; go_simp) (Hooks.add HDSA6.out (Hooks.nil _ _)) ?_
              try simp only [Act.put]
              try simp only [List.setIfInBounds_toArray]
              try simp only [List.set_cons_succ]
              try simp only [List.set_cons_zero]
              refine wpAnyL_move (oi := ⟨some 87, _, _, _, _, _⟩) 2 ?_ rfl (by kernel_rfl) (by kernel_rfl) (by kernel_rfl) (by kernel_rfl) (fun _ _ _ h => h) (by kernel_rfl) ?_ (Hooks.add HDSA6.out (Hooks.nil _ _)) ?_
              rotate_left
              · intro W'; go_simp; first | done | with_reducible rfl
              try simp only [Act.put]
              try simp only [List.setIfInBounds_toArray]
              try simp only [List.set_cons_succ]
              try simp only [List.set_cons_zero]
              refine wpAnyL_one 3 (by kernel_rfl) rfl (fun K hK => ?_)
              go_wp2_with (go_at_call 71; refine (HO6.out _ HDA6.out.ra HDA6.out.bsize).mono ?_; rintro e wbA6 ⟨⟨cs, rfl, hln⟩, hm, hk⟩; obtain ⟨va, vb, rfl, hva, hvb⟩ := hln; obtain ⟨Aa, ca, rfl, _, _⟩ := own_form hva; obtain ⟨Ab, cb, rfl, _, _⟩ := own_form hvb; have HCA6 := hideIt (HDA6.out.call hm hk); have HLA6 := hideIt ((show LnR wbA6 WD.heap.size _ _ from ⟨_, _, rfl, hva, hvb⟩).low HDA6.out.size); have HSA6 := hideIt HCA6.out.so; clear hm hk hva hvb)
              refine hK _ _ (Hooks.add HSA6.out (Hooks.nil _ _)) ?_
              clear hK K
              refine wpAnyL_one 4 (by kernel_rfl) rfl (fun K hK => ?_)
              go_wp2_with fail
              refine hK _ _ (Hooks.add (HSA6.out.alloc _) (Hooks.nil _ _)) ?_
              clear hK K
              refine wpAnyL_one 5 (by kernel_rfl) rfl (fun K hK => ?_)
              refine wpList_line rfl (.tmp 86) (.tmp 89) rfl w.heap.size HCA6.out.size _ _ HCA6.out.ln _ _ HLA6.out (by omega) rfl rfl ?_
              intro AnA6 nnA6 cnA6 w4 hl4 hb4 hk4 hr4
              have HPA6 := hideIt (HCA6.out.push hl4 hb4 hk4 hr4)
              have HTA6 := hideIt (hk4 _ _ _ (by decide) HCA6.out.so)
              have z4 := HTA6.out.cell 4
              have y4 := HTA6.out.free 4
              clear hl4 hb4 hk4 hr4
              go_wp2_with fail
              refine hK _ _ (Hooks.add HTA6.out (Hooks.nil _ _)) ?_
              clear hK K
              refine loads_tail 6 (by kernel_rfl) (by kernel_rfl) (by kernel_rfl) (by kernel_rfl) ?_
              simp only [List.drop_succ_cons, List.drop_zero]
              go_wp2_with fail
              generalize hW5 : World.setCell w4 _ _ = WA6 at *
              have HA6 := HPA6
              clear z4 y4 hW5 HTA6 HPA6 HSA6 HDA6 HDSA6 HCA6 HLA6
              go_wp2_with (go_at_call 70; refine (HMF.out _ HA6.out.ra HA6.out.bsize).mono ?_; clear HMF; rintro e wz ⟨rfl, hm, hk⟩; have HJZ := hideIt (HA6.out.call hm hk); have z0 := HJZ.out.so.cell 0; have z1 := HJZ.out.so.cell 1; have z2 := HJZ.out.so.cell 2; have z3 := HJZ.out.so.cell 3; have z4 := HJZ.out.so.cell 4; have r0 := HJZ.out.rb.cell 0; have r1 := HJZ.out.rb.cell 1; have r2 := HJZ.out.rb.cell 2; have r3 := HJZ.out.rb.cell 3; have r4 := HJZ.out.rb.cell 4; have f0 := HJZ.out.rb.free 0; have f1 := HJZ.out.rb.free 1; have f2 := HJZ.out.rb.free 2; have f3 := HJZ.out.rb.free 3; have f4 := HJZ.out.rb.free 4; clear hm hk)
              have HB1 := (((HJZ.out.rb.store 0 (sv nm.tx)).store 1 (.int .i64 (nm.ps : Int))).store 2 (.int .i64 (nm.kd : Int))).store 3 (.int .i64 (nm.n : Int))
              have hcz := code_end HJZ.out
              refine bodyPost_ret (res_cell rfl _ _ w.heap.size _ _ _ rfl hcz.1 Tryz.underlying87 rfl isc) rfl ?_
              rw [HQ.out]
              exact ⟨⟨_, rfl, _, rfl, hcz.2.2.1⟩, hcz.2.1, hcz.2.2.2⟩
            | false =>
              have HEP : Hid (endP l R = (out, S')) := by show _ = _; rw [HRS]; unfold endP; dsimp only; rw [hd, if_neg (by decide)]
              rw [hd] at HDI
              have HMF := hideIt (HMU.out [125] S' HIL.out)
              generalize cur l S' = dkz at *
              have HQ := hideIt HEP.out
              clear hd HRS
              go_wp2_with (first
                | (go_at_call 72; refine (HIP.out _ HCR.out.ra).mono ?_; clear HIP; rintro e wi ⟨rfl, hbw⟩; have HJ0 := hideIt (HCR.out.asked hbw); clear hbw)
                | (go_at_call 72; refine (HIQ.out _ HJ0.out.ra).mono ?_; clear HIQ; rintro e wi ⟨rfl, hbw⟩; have HJE := hideIt (HJ0.out.asked hbw); clear hbw)
                | (go_at_call 72; refine (HDI.out _ HJE.out.ra).mono ?_; clear HDI; rintro e wi ⟨rfl, hbw⟩; have HJD := hideIt (HJE.out.asked hbw); clear hbw)
                | (go_at_call 70; refine (HMF.out _ HJD.out.ra HJD.out.bsize).mono ?_; clear HMF; rintro e wz ⟨rfl, hm, hk⟩; have HJZ := hideIt (HJD.out.call hm hk); have z0 := HJZ.out.so.cell 0; have z1 := HJZ.out.so.cell 1; have z2 := HJZ.out.so.cell 2; have z3 := HJZ.out.so.cell 3; have z4 := HJZ.out.so.cell 4; have r0 := HJZ.out.rb.cell 0; have r1 := HJZ.out.rb.cell 1; have r2 := HJZ.out.rb.cell 2; have r3 := HJZ.out.rb.cell 3; have r4 := HJZ.out.rb.cell 4; have f0 := HJZ.out.rb.free 0; have f1 := HJZ.out.rb.free 1; have f2 := HJZ.out.rb.free 2; have f3 := HJZ.out.rb.free 3; have f4 := HJZ.out.rb.free 4; clear hm hk))
              have HB1 := (((HJZ.out.rb.store 0 (sv nm.tx)).store 1 (.int .i64 (nm.ps : Int))).store 2 (.int .i64 (nm.kd : Int))).store 3 (.int .i64 (nm.n : Int))
              have hcz := code_end HJZ.out
              refine bodyPost_ret (res_cell rfl _ _ w.heap.size _ _ _ rfl hcz.1 Tryz.underlying87 rfl isc) rfl ?_
              rw [HQ.out]
              exact ⟨⟨_, rfl, _, rfl, hcz.2.2.1⟩, hcz.2.1, hcz.2.2.2⟩
    · have HST : Hid (R = (out, S')) := by
        have := HRG.out
        cases gk with
        | zero => exact this.symm
        | succ g1 => rw [rowsG, if_neg (fun q => hb q.1)] at this; exact this.symm
      have hbd : decide (S'.bad < 0) = false := decide_eq_false hb
      clear hb HIP HIQ
      have HJE := HCR
      have HRS := HST.out
      have HDI := hideIt (HIS.out kDomain S' HIL.out)
      cases hd : isP l kDomain S' with
      | true =>
        have HEP : Hid (endP l R = (out ++ [(oneP l kDomain S').1], (oneP l kDomain S').2)) := by show _ = _; rw [HRS]; unfold endP; dsimp only; rw [hd, if_pos rfl]
        have HO6 := hideIt (HON.out kDomain S' HIL.out)
        have HI6 := hideIt (oneP_lt HL.out kDomain HIL.out)
        obtain ⟨S6, hS6⟩ : ∃ T, T = (oneP l kDomain S').2 := ⟨_, rfl⟩
        obtain ⟨x6, hx6⟩ : ∃ T, T = (oneP l kDomain S').1 := ⟨_, rfl⟩
        rw [← hS6, ← hx6] at HEP HO6
        rw [← hS6] at HI6
        rw [hd] at HDI
        have HMF := hideIt (HMU.out [125] S6 HI6.out)
        generalize cur l S6 = dkz at *
        have HQ := hideIt HEP.out
        clear hS6 hx6 hd HRS
        go_wp2_with (first
          | fail
          | (go_at_call 72; refine (HDI.out _ HJE.out.ra).mono ?_; clear HDI; rintro e wi ⟨rfl, hbw⟩; have HJD := hideIt (HJE.out.asked hbw); clear hbw))
        have HDA6 := hideIt HJD.out.drawn
        have HDSA6 := hideIt HDA6.out.so
        refine loads_begin_n 8 [(6, (fun W => Blk W sb 87 [sv nm.tx, .int .i64 (nm.ps : Int), .int .i64 (nm.kd : Int), .int .i64 (nm.n : Int), .slice Al nl cl]))] rfl (by kernel_rfl) ?_
        generalize hWD : World.drew _ = WD at HDA6 HDSA6 ⊢
        clear hWD
        refine wpAnyL_move (oi := ⟨some 85, _, _, _, _, _⟩) 0 ?_ rfl (by kernel_rfl) (by kernel_rfl) (by kernel_rfl) (by kernel_rfl) (fun _ _ _ h => h) (by kernel_rfl) ?_ (Hooks.add HDSA6.out (Hooks.nil _ _)) ?_
        rotate_left
        · intro W'; go_simp; first | done | with_reducible rfl
        try simp only [Act.put]
        try simp only [List.setIfInBounds_toArray]
        try simp only [List.set_cons_succ]
        try simp only [List.set_cons_zero]
        refine wpAnyL_take (oi := ⟨some 86, _, _, _, _, _⟩) 1 6 (.slice Al nl cl) _ rfl (by kernel_rfl) (by kernel_rfl) (by kernel_rfl) (by kernel_rfl) (by kernel_rfl) (by kernel_rfl) (.head _) (fun _ _ _ h => h) (by kernel_rfl) (fun W' hW' => by have hW' : Blk W' sb 87 [sv nm.tx, .int .i64 (nm.ps : Int), .int .i64 (nm.kd : Int), .int .i64 (nm.n : Int), .slice Al nl cl] := hW'; have q := hW'.cell 4; go_simp) (Hooks.add HDSA6.out (Hooks.nil _ _)) ?_
        try simp only [Act.put]
        try simp only [List.setIfInBounds_toArray]
        try simp only [List.set_cons_succ]
        try simp only [List.set_cons_zero]
        refine wpAnyL_move (oi := ⟨some 87, _, _, _, _, _⟩) 2 ?_ rfl (by kernel_rfl) (by kernel_rfl) (by kernel_rfl) (by kernel_rfl) (fun _ _ _ h => h) (by kernel_rfl) ?_ (Hooks.add HDSA6.out (Hooks.nil _ _)) ?_
        rotate_left
        · intro W'; go_simp; first | done | with_reducible rfl
        try simp only [Act.put]
        try simp only [List.setIfInBounds_toArray]
        try simp only [List.set_cons_succ]
        try simp only [List.set_cons_zero]
        refine wpAnyL_one 3 (by kernel_rfl) rfl (fun K hK => ?_)
        go_wp2_with (go_at_call 71; refine (HO6.out _ HDA6.out.ra HDA6.out.bsize).mono ?_; rintro e wbA6 ⟨⟨cs, rfl, hln⟩, hm, hk⟩; obtain ⟨va, vb, rfl, hva, hvb⟩ := hln; obtain ⟨Aa, ca, rfl, _, _⟩ := own_form hva; obtain ⟨Ab, cb, rfl, _, _⟩ := own_form hvb; have HCA6 := hideIt (HDA6.out.call hm hk); have HLA6 := hideIt ((show LnR wbA6 WD.heap.size _ _ from ⟨_, _, rfl, hva, hvb⟩).low HDA6.out.size); have HSA6 := hideIt HCA6.out.so; clear hm hk hva hvb)
        refine hK _ _ (Hooks.add HSA6.out (Hooks.nil _ _)) ?_
        clear hK K
        refine wpAnyL_one 4 (by kernel_rfl) rfl (fun K hK => ?_)
        go_wp2_with fail
        refine hK _ _ (Hooks.add (HSA6.out.alloc _) (Hooks.nil _ _)) ?_
        clear hK K
        refine wpAnyL_one 5 (by kernel_rfl) rfl (fun K hK => ?_)
        refine wpList_line rfl (.tmp 86) (.tmp 89) rfl w.heap.size HCA6.out.size _ _ HCA6.out.ln _ _ HLA6.out (by omega) rfl rfl ?_
        intro AnA6 nnA6 cnA6 w4 hl4 hb4 hk4 hr4
        have HPA6 := hideIt (HCA6.out.push hl4 hb4 hk4 hr4)
        have HTA6 := hideIt (hk4 _ _ _ (by decide) HCA6.out.so)
        have z4 := HTA6.out.cell 4
        have y4 := HTA6.out.free 4
        clear hl4 hb4 hk4 hr4
        go_wp2_with fail
        refine hK _ _ (Hooks.add HTA6.out (Hooks.nil _ _)) ?_
        clear hK K
        refine loads_tail 6 (by kernel_rfl) (by kernel_rfl) (by kernel_rfl) (by kernel_rfl) ?_
        simp only [List.drop_succ_cons, List.drop_zero]
        go_wp2_with fail
        generalize hW5 : World.setCell w4 _ _ = WA6 at *
        have HA6 := HPA6
        clear z4 y4 hW5 HTA6 HPA6 HSA6 HDA6 HDSA6 HCA6 HLA6
        go_wp2_with (go_at_call 70; refine (HMF.out _ HA6.out.ra HA6.out.bsize).mono ?_; clear HMF; rintro e wz ⟨rfl, hm, hk⟩; have HJZ := hideIt (HA6.out.call hm hk); have z0 := HJZ.out.so.cell 0; have z1 := HJZ.out.so.cell 1; have z2 := HJZ.out.so.cell 2; have z3 := HJZ.out.so.cell 3; have z4 := HJZ.out.so.cell 4; have r0 := HJZ.out.rb.cell 0; have r1 := HJZ.out.rb.cell 1; have r2 := HJZ.out.rb.cell 2; have r3 := HJZ.out.rb.cell 3; have r4 := HJZ.out.rb.cell 4; have f0 := HJZ.out.rb.free 0; have f1 := HJZ.out.rb.free 1; have f2 := HJZ.out.rb.free 2; have f3 := HJZ.out.rb.free 3; have f4 := HJZ.out.rb.free 4; clear hm hk)
        have HB1 := (((HJZ.out.rb.store 0 (sv nm.tx)).store 1 (.int .i64 (nm.ps : Int))).store 2 (.int .i64 (nm.kd : Int))).store 3 (.int .i64 (nm.n : Int))
        have hcz := code_end HJZ.out
        refine bodyPost_ret (res_cell rfl _ _ w.heap.size _ _ _ rfl hcz.1 Tryz.underlying87 rfl isc) rfl ?_
        rw [HQ.out]
        exact ⟨⟨_, rfl, _, rfl, hcz.2.2.1⟩, hcz.2.1, hcz.2.2.2⟩
      | false =>
        have HEP : Hid (endP l R = (out, S')) := by show _ = _; rw [HRS]; unfold endP; dsimp only; rw [hd, if_neg (by decide)]
        rw [hd] at HDI
        have HMF := hideIt (HMU.out [125] S' HIL.out)
        generalize cur l S' = dkz at *
        have HQ := hideIt HEP.out
        clear hd HRS
        go_wp2_with (first
          | fail
          | (go_at_call 72; refine (HDI.out _ HJE.out.ra).mono ?_; clear HDI; rintro e wi ⟨rfl, hbw⟩; have HJD := hideIt (HJE.out.asked hbw); clear hbw)
          | (go_at_call 70; refine (HMF.out _ HJD.out.ra HJD.out.bsize).mono ?_; clear HMF; rintro e wz ⟨rfl, hm, hk⟩; have HJZ := hideIt (HJD.out.call hm hk); have z0 := HJZ.out.so.cell 0; have z1 := HJZ.out.so.cell 1; have z2 := HJZ.out.so.cell 2; have z3 := HJZ.out.so.cell 3; have z4 := HJZ.out.so.cell 4; have r0 := HJZ.out.rb.cell 0; have r1 := HJZ.out.rb.cell 1; have r2 := HJZ.out.rb.cell 2; have r3 := HJZ.out.rb.cell 3; have r4 := HJZ.out.rb.cell 4; have f0 := HJZ.out.rb.free 0; have f1 := HJZ.out.rb.free 1; have f2 := HJZ.out.rb.free 2; have f3 := HJZ.out.rb.free 3; have f4 := HJZ.out.rb.free 4; clear hm hk))
        have HB1 := (((HJZ.out.rb.store 0 (sv nm.tx)).store 1 (.int .i64 (nm.ps : Int))).store 2 (.int .i64 (nm.kd : Int))).store 3 (.int .i64 (nm.n : Int))
        have hcz := code_end HJZ.out
        refine bodyPost_ret (res_cell rfl _ _ w.heap.size _ _ _ rfl hcz.1 Tryz.underlying87 rfl isc) rfl ?_
        rw [HQ.out]
        exact ⟨⟨_, rfl, _, rfl, hcz.2.2.1⟩, hcz.2.1, hcz.2.2.2⟩

end Go.Proofs.YtcogkdnlpjfgdaaGreatDoor
