/-
  The walk of the law: For every m and element and at most 10 units of at most 200 bytes, Xor, Scale and Combine return what the specification defines.
-/
import Derived.Test.YtihepogccgcfkaaDoorFldE
import Derived.Test.YtihepogccgcfkaaDoorArgG
namespace Go.Proofs.YtihepogccgcfkaaDoor.fieldUnitsMatchSpec
open Go.RowKit
set_option linter.unusedVariables false

set_option maxHeartbeats 2000000 in
set_option maxRecDepth 100000 in
theorem walk (m c : Int) (A : Option Addr) (ca : Nat) (cs : List Int) (D : Option Addr) (cd : Nat) (us : List (List UInt8)) (o : List UInt8) (w : World) (xc : Sl w w.heap.size A 1 cs.length (cs.map iv)) (xu : Sl w w.heap.size D 1 us.length (us.map sv)) (T1 : Tabs w) :
    Calls Tryd.prog 4 #[uinV m c (.slice A cs.length ca) (.slice D us.length cd) o] w fun e w' => e = .returned (.bool true) ∧ Below w.heap.size w w' := by
  show Calls Tryd.prog 4 #[.agg #[.int .i64 m, .int .i64 c, .slice A cs.length ca, .slice D us.length cd, .string (str o)]] w _
  obtain ⟨w1, hw1⟩ : ∃ x, x = w.alloc (.cells #[.int .i64 m, .int .i64 c, .slice A cs.length ca, .slice D us.length cd, .string (str o)] 32) := ⟨_, rfl⟩
  have HB01 := hideIt (show Below w.heap.size w w1 by rw [hw1]; exact below_new _ _)
  have hblk : Blk w1 w.heap.size 32 [.int .i64 m, .int .i64 c, .slice A cs.length ca, .slice D us.length cd, .string (str o)] := by rw [hw1]; exact Blk.new w _ _
  have hlt := hblk.lt
  have E := hideIt (show ∀ W, Below w1.heap.size w1 W → W.cell? ⟨w.heap.size, 0, none⟩ = some (.int .i64 m) ∧ W.cell? ⟨w.heap.size, 1, none⟩ = some (.int .i64 c) ∧ W.cell? ⟨w.heap.size, 2, none⟩ = some (.slice A cs.length ca) ∧ W.cell? ⟨w.heap.size, 3, none⟩ = some (.slice D us.length cd) ∧ W.cell? ⟨w.heap.size, 4, none⟩ = some (.string (str o)) from fun W hW =>
    ⟨(hW.cell (p := ⟨_, 0, none⟩) hlt).trans (hblk.cell 0), (hW.cell (p := ⟨_, 1, none⟩) hlt).trans (hblk.cell 1), (hW.cell (p := ⟨_, 2, none⟩) hlt).trans (hblk.cell 2), (hW.cell (p := ⟨_, 3, none⟩) hlt).trans (hblk.cell 3), (hW.cell (p := ⟨_, 4, none⟩) hlt).trans (hblk.cell 4)⟩)
  have HT := hideIt (T1.keep HB01.out)
  have HSA := hideIt (sanity_any w1 HT.out)
  have HW1 := hideIt hw1
  have XC := hideIt xc
  have XU := hideIt xu
  have hso := str_size o
  have HLO := hideIt hlt
  clear T1 hw1 hblk hlt xc xu
  by_cases h1 : 10 < us.length
  · have t1 : decide ((10 : Int) < (us.length : Int)) = true := by simp; omega
    clear XC XU HT
    generalize str o = so at *
    go_enter Tryd.func4, Tryd.ntmps4
    go_wp2_with (go_at_call 9; rw [← HW1.out]; refine HSA.out.mono ?_; rintro e wa ⟨rfl, hb⟩; obtain ⟨e0, e1, e2, e3, e4⟩ := E.out wa hb; have HBA := hideIt hb; clear hb)
    go_ret
    exact ⟨rfl, HB01.out.trans (HBA.out.mono HB01.out.size)⟩
  have f1 : decide ((10 : Int) < (us.length : Int)) = false := by simp; omega
  by_cases h2 : 10 < cs.length
  · have t2 : decide ((10 : Int) < (cs.length : Int)) = true := by simp; omega
    clear XC XU HT
    generalize str o = so at *
    go_enter Tryd.func4, Tryd.ntmps4
    go_wp2_with (go_at_call 9; rw [← HW1.out]; refine HSA.out.mono ?_; rintro e wa ⟨rfl, hb⟩; obtain ⟨e0, e1, e2, e3, e4⟩ := E.out wa hb; have HBA := hideIt hb; clear hb)
    go_ret
    exact ⟨rfl, HB01.out.trans (HBA.out.mono HB01.out.size)⟩
  have f2 : decide ((10 : Int) < (cs.length : Int)) = false := by simp; omega
  by_cases h3 : 200 < o.length
  · have t3 : decide ((200 : Int) < (o.length : Int)) = true := by simp; omega
    clear XC XU HT
    generalize str o = so at *
    go_enter Tryd.func4, Tryd.ntmps4
    go_wp2_with (go_at_call 9; rw [← HW1.out]; refine HSA.out.mono ?_; rintro e wa ⟨rfl, hb⟩; obtain ⟨e0, e1, e2, e3, e4⟩ := E.out wa hb; have HBA := hideIt hb; clear hb)
    go_ret
    exact ⟨rfl, HB01.out.trans (HBA.out.mono HB01.out.size)⟩
  have f3 : decide ((200 : Int) < (o.length : Int)) = false := by simp; omega
  have H1 := hideIt h1
  have H2 := hideIt h2
  have H3 := hideIt h3
  clear h1 h2 h3
  obtain ⟨so, hso2⟩ : ∃ so, so = str o := ⟨_, rfl⟩
  rw [← hso2] at E HW1 hso ⊢
  have HSO := hideIt hso2
  clear hso2
  go_enter Tryd.func4, Tryd.ntmps4
  go_wp2_with (go_at_call 9; rw [← HW1.out]; refine HSA.out.mono ?_; rintro e wa ⟨rfl, hb⟩; obtain ⟨e0, e1, e2, e3, e4⟩ := E.out wa hb; have HBA := hideIt hb; clear hb)
  clear f1 f2 f3 hso HSA HW1
  go_loopg [4] us.length (fun g s4 wr => ∃ k : Nat, k + g = us.length ∧ s4 = .int .i64 (k : Int) ∧ Aside (Below w1.heap.size w1 wr ∧ ∀ u ∈ us.take k, u.length ≤ 200))
  case atStart => exact ⟨0, by omega, rfl, HBA.out, by simp⟩
  case round =>
    clear e0 e1 e2 e3 e4
    obtain ⟨k, hk, rfl, HI⟩ := hrel
    obtain ⟨e0, e1, e2, e3, e4⟩ := E.out wr HI.out.1
    by_cases hlt : k < us.length
    · obtain ⟨bu, ou, hD, hbu, hcu⟩ := XU.out.strs (by omega)
      subst hD
      have hcell : wr.cell? ⟨bu, ou + k, none⟩ = some (.string (str us[k])) := ((HB01.out.trans (HI.out.1.mono HB01.out.size)).cell (p := ⟨bu, ou + k, none⟩) hbu).trans (hcu k hlt)
      have hsz := str_size us[k]
      have HTS := hideIt (take_snoc us k hlt)
      have hinc := inc_c 3 k (by have := H1.out; omega)
      have hki : (k : Int) < (us.length : Int) := by omega
      clear hcu hbu
      by_cases h200 : 200 < us[k].length
      · have hq : (200 : Int) < (us[k].length : Int) := by omega
        generalize str us[k] = su at *
        clear h200
        go_wp2_with fail
        go_ret
        exact ⟨rfl, HB01.out.trans (HI.out.1.mono HB01.out.size)⟩
      · have hq : ¬ (200 : Int) < (us[k].length : Int) := by omega
        have HQ := hideIt (show us[k].length ≤ 200 by omega)
        generalize str us[k] = su at *
        go_wp2_with fail
        go_roundg (gk - 1)
        case measure => omega
        case rel =>
          refine ⟨k + 1, by omega, by go_num, HI.out.1, ?_⟩
          rw [HTS.out]
          intro u hu
          rcases List.mem_append.1 hu with h | h
          · exact HI.out.2 u h
          · rw [List.mem_singleton] at h; rw [h]; exact HQ.out
    · have hki : ¬ (k : Int) < (us.length : Int) := by omega
      have hall : ∀ u ∈ us, u.length ≤ 200 := by
        have h := HI.out.2
        rw [List.take_of_length_le (by omega)] at h
        exact h
      have hul : ul us ≤ 200 := by
        unfold ul
        cases us with
        | nil => simp
        | cons u r => exact hall u (by simp)
      have HALL := hideIt hall
      have xc : ∀ W, Below w1.heap.size w1 W → Sl W W.heap.size A 1 cs.length (cs.map iv) := fun W hW => by
        have h := HB01.out.trans (hW.mono HB01.out.size)
        exact (XC.out.below h).wide h.size
      have xu : ∀ W, Below w1.heap.size w1 W → Sl W W.heap.size D 1 us.length (us.map sv) := fun W hW => by
        have h := HB01.out.trans (hW.mono HB01.out.size)
        exact (XU.out.below h).wide h.size
      have CM := hideIt (combine_any m A ca cs D cd us wr (HT.out.keep HI.out.1) (by have := H2.out; omega) (by omega) (xc wr HI.out.1) (xu wr HI.out.1))
      have RM := hideIt (fun W (hW : Below w1.heap.size w1 W) => rcombine_any m A ca cs D cd us W (by have := H2.out; omega) (fun u hu => by have := hall u hu; omega) (xc W hW) (xu W hW))
      generalize str (cbS m cs us) = zs at *
      generalize cbE m cs us = ze at *
      have hz := int_neqF 23 (a := ze) rfl
      clear hlt hul xc xu hall hk
      go_wp2_with (first
        | (go_at_call 22; refine CM.out.mono ?_; rintro e wb ⟨rfl, hb⟩; have HBB := hideIt (HI.out.1.trans (hb.mono HI.out.1.size)); clear hb; clear e0 e1 e2 e3 e4; obtain ⟨e0, e1, e2, e3, e4⟩ := E.out wb HBB.out)
        | (go_at_call 23; refine (RM.out _ HBB.out).mono ?_; rintro e wd ⟨rfl, hb⟩; have HBD := hideIt (HBB.out.trans (hb.mono HBB.out.size)); clear hb; clear e0 e1 e2 e3 e4; obtain ⟨e0, e1, e2, e3, e4⟩ := E.out wd HBD.out))
      clear e0 e1 e2 e3 e4 CM RM hki hz
      go_loopg [9] us.length (fun g s9 wr => ∃ k : Nat, k + g = us.length ∧ s9 = .int .i64 (k : Int) ∧ Aside (Below w1.heap.size w1 wr))
      case atStart => exact ⟨0, by omega, rfl, HBD.out⟩
      case round =>
        obtain ⟨k, hk, rfl, HJ⟩ := hrel
        obtain ⟨e0, e1, e2, e3, e4⟩ := E.out wr HJ.out
        by_cases hlt : k < us.length
        · obtain ⟨bu, ou, hD, hbu, hcu⟩ := XU.out.strs (by omega)
          subst hD
          have HU := hideIt (show ∀ W, Below w1.heap.size w1 W → W.cell? ⟨bu, ou + k, none⟩ = some (.string (str us[k])) from fun W hW => ((HB01.out.trans (hW.mono HB01.out.size)).cell (p := ⟨bu, ou + k, none⟩) hbu).trans (hcu k hlt))
          have hl2 := HALL.out us[k] (List.getElem_mem hlt)
          have F0 := hideIt (fun W (hW : Below w1.heap.size w1 W) => (E.out W hW).1)
          have F1 := hideIt (fun W (hW : Below w1.heap.size w1 W) => (E.out W hW).2.1)
          have F3 := hideIt (fun W (hW : Below w1.heap.size w1 W) => (E.out W hW).2.2.2.1)
          have F4 := hideIt (fun W (hW : Below w1.heap.size w1 W) => (E.out W hW).2.2.2.2)
          have CS := hideIt (fun W (hW : Below w1.heap.size w1 W) => scale_b HT.out hW m c us[k] (by omega))
          have RS := hideIt (fun W (hW : Below w1.heap.size w1 W) => (rscale_any m c us[k] (by omega) W).mono (fun e w' h => And.intro h.1 (hW.trans (h.2.mono hW.size))))
          have CX := hideIt (fun W (hW : Below w1.heap.size w1 W) => xor_b hW us[k] o (by omega))
          have RX := hideIt (fun W (hW : Below w1.heap.size w1 W) => (rxor_any us[k] o (by omega) W).mono (fun e w' h => And.intro h.1 (hW.trans (h.2.mono hW.size))))
          have hinc := inc_c 3 k (by have := H1.out; omega)
          have hki : (k : Int) < (us.length : Int) := by omega
          rw [← HSO.out] at CX RX
          generalize str (scR m c us[k]) = x at *
          generalize scE m c us[k] = xe at *
          generalize str (xrS us[k] o) = y at *
          generalize xrE us[k] o = ye at *
          generalize str us[k] = su at *
          have hz1 := int_neqF 23 (a := xe) rfl
          have hz2 := int_neqF 23 (a := ye) rfl
          clear hcu hbu hl2 hlt
          go_wp2_with fail
          clear e0 e1 e2 e3 e4
          refine wp_region_quiet_below (w0 := w1) (B := w1.heap.size) (by kernel_rfl) (by kernel_rfl) HJ.out ?_
          try simp only [Act.put]
          try simp only [List.setIfInBounds_toArray]
          try simp only [List.set_cons_succ]
          try simp only [List.set_cons_zero]
          go_big_quiet_step ((first | (intro _; rfl) | (intro _; exact ⟨rfl, rfl⟩)))
          go_big_quiet_want
          refine quiet_run (.int .i64 m) (fun W hW => by simp [execOp, F0.out W hW, Result.andThen, go_sem]) ?_
          go_big_quiet_on
          try simp only [Act.put]
          try simp only [List.setIfInBounds_toArray]
          try simp only [List.set_cons_succ]
          try simp only [List.set_cons_zero]
          go_big_quiet_step ((first | (intro _; rfl) | (intro _; exact ⟨rfl, rfl⟩)))
          go_big_quiet_want
          refine quiet_run (.int .i64 c) (fun W hW => by simp [execOp, F1.out W hW, Result.andThen, go_sem]) ?_
          go_big_quiet_on
          try simp only [Act.put]
          try simp only [List.setIfInBounds_toArray]
          try simp only [List.set_cons_succ]
          try simp only [List.set_cons_zero]
          go_big_quiet_step ((first | (intro _; rfl) | (intro _; exact ⟨rfl, rfl⟩)))
          go_big_quiet_want
          refine quiet_run (.slice (some ⟨bu, ou, none⟩) us.length cd) (fun W hW => by simp [execOp, F3.out W hW, Result.andThen, go_sem]) ?_
          go_big_quiet_on
          try simp only [Act.put]
          try simp only [List.setIfInBounds_toArray]
          try simp only [List.set_cons_succ]
          try simp only [List.set_cons_zero]
          go_big_quiet_step ((first | (intro _; rfl) | (intro _; exact ⟨rfl, rfl⟩)))
          go_big_quiet_step ((first | (intro _; rfl) | (intro _; exact ⟨rfl, rfl⟩)))
          go_big_quiet_want
          refine quiet_run (.string su) (fun W hW => by simp [execOp, HU.out W hW, Result.andThen, go_sem]) ?_
          go_big_quiet_on
          try simp only [Act.put]
          try simp only [List.setIfInBounds_toArray]
          try simp only [List.set_cons_succ]
          try simp only [List.set_cons_zero]
          go_big_quiet_step ((intro hb; refine (CS.out _ hb).mono ?_; rintro x wc ⟨rfl, hb2⟩; exact ⟨rfl, hb2⟩))
          repeat (go_big_quiet_step ((first | (intro _; rfl) | (intro _; exact ⟨rfl, rfl⟩))))
          refine wpQuiet_nil ?_
          intro v1 hb
          have Hv1 := hideIt hb
          clear hb
          go_wp2_with fail
          refine wp_region_quiet_below (w0 := w1) (B := w1.heap.size) (by kernel_rfl) (by kernel_rfl) Hv1.out ?_
          try simp only [Act.put]
          try simp only [List.setIfInBounds_toArray]
          try simp only [List.set_cons_succ]
          try simp only [List.set_cons_zero]
          go_big_quiet_step ((first | (intro _; rfl) | (intro _; exact ⟨rfl, rfl⟩)))
          go_big_quiet_want
          refine quiet_run (.int .i64 m) (fun W hW => by simp [execOp, F0.out W hW, Result.andThen, go_sem]) ?_
          go_big_quiet_on
          try simp only [Act.put]
          try simp only [List.setIfInBounds_toArray]
          try simp only [List.set_cons_succ]
          try simp only [List.set_cons_zero]
          go_big_quiet_step ((first | (intro _; rfl) | (intro _; exact ⟨rfl, rfl⟩)))
          go_big_quiet_want
          refine quiet_run (.int .i64 c) (fun W hW => by simp [execOp, F1.out W hW, Result.andThen, go_sem]) ?_
          go_big_quiet_on
          try simp only [Act.put]
          try simp only [List.setIfInBounds_toArray]
          try simp only [List.set_cons_succ]
          try simp only [List.set_cons_zero]
          go_big_quiet_step ((first | (intro _; rfl) | (intro _; exact ⟨rfl, rfl⟩)))
          go_big_quiet_want
          refine quiet_run (.slice (some ⟨bu, ou, none⟩) us.length cd) (fun W hW => by simp [execOp, F3.out W hW, Result.andThen, go_sem]) ?_
          go_big_quiet_on
          try simp only [Act.put]
          try simp only [List.setIfInBounds_toArray]
          try simp only [List.set_cons_succ]
          try simp only [List.set_cons_zero]
          go_big_quiet_step ((first | (intro _; rfl) | (intro _; exact ⟨rfl, rfl⟩)))
          go_big_quiet_step ((first | (intro _; rfl) | (intro _; exact ⟨rfl, rfl⟩)))
          go_big_quiet_want
          refine quiet_run (.string su) (fun W hW => by simp [execOp, HU.out W hW, Result.andThen, go_sem]) ?_
          go_big_quiet_on
          try simp only [Act.put]
          try simp only [List.setIfInBounds_toArray]
          try simp only [List.set_cons_succ]
          try simp only [List.set_cons_zero]
          go_big_quiet_step ((intro hb; refine (RS.out _ hb).mono ?_; rintro x wc ⟨rfl, hb2⟩; exact ⟨rfl, hb2⟩))
          repeat (go_big_quiet_step ((first | (intro _; rfl) | (intro _; exact ⟨rfl, rfl⟩))))
          refine wpQuiet_nil ?_
          intro v2 hb
          have Hv2 := hideIt hb
          clear hb
          go_wp2_with fail
          refine wp_region_quiet_below (w0 := w1) (B := w1.heap.size) (by kernel_rfl) (by kernel_rfl) Hv2.out ?_
          try simp only [Act.put]
          try simp only [List.setIfInBounds_toArray]
          try simp only [List.set_cons_succ]
          try simp only [List.set_cons_zero]
          go_big_quiet_step ((first | (intro _; rfl) | (intro _; exact ⟨rfl, rfl⟩)))
          go_big_quiet_want
          refine quiet_run (.slice (some ⟨bu, ou, none⟩) us.length cd) (fun W hW => by simp [execOp, F3.out W hW, Result.andThen, go_sem]) ?_
          go_big_quiet_on
          try simp only [Act.put]
          try simp only [List.setIfInBounds_toArray]
          try simp only [List.set_cons_succ]
          try simp only [List.set_cons_zero]
          go_big_quiet_step ((first | (intro _; rfl) | (intro _; exact ⟨rfl, rfl⟩)))
          go_big_quiet_step ((first | (intro _; rfl) | (intro _; exact ⟨rfl, rfl⟩)))
          go_big_quiet_want
          refine quiet_run (.string su) (fun W hW => by simp [execOp, HU.out W hW, Result.andThen, go_sem]) ?_
          go_big_quiet_on
          try simp only [Act.put]
          try simp only [List.setIfInBounds_toArray]
          try simp only [List.set_cons_succ]
          try simp only [List.set_cons_zero]
          go_big_quiet_step ((first | (intro _; rfl) | (intro _; exact ⟨rfl, rfl⟩)))
          go_big_quiet_want
          refine quiet_run (.string so) (fun W hW => by simp [execOp, F4.out W hW, Result.andThen, go_sem]) ?_
          go_big_quiet_on
          try simp only [Act.put]
          try simp only [List.setIfInBounds_toArray]
          try simp only [List.set_cons_succ]
          try simp only [List.set_cons_zero]
          go_big_quiet_step ((intro hb; refine (CX.out _ hb).mono ?_; rintro x wc ⟨rfl, hb2⟩; exact ⟨rfl, hb2⟩))
          repeat (go_big_quiet_step ((first | (intro _; rfl) | (intro _; exact ⟨rfl, rfl⟩))))
          refine wpQuiet_nil ?_
          intro v3 hb
          have Hv3 := hideIt hb
          clear hb
          go_wp2_with fail
          refine wp_region_quiet_below (w0 := w1) (B := w1.heap.size) (by kernel_rfl) (by kernel_rfl) Hv3.out ?_
          try simp only [Act.put]
          try simp only [List.setIfInBounds_toArray]
          try simp only [List.set_cons_succ]
          try simp only [List.set_cons_zero]
          go_big_quiet_step ((first | (intro _; rfl) | (intro _; exact ⟨rfl, rfl⟩)))
          go_big_quiet_want
          refine quiet_run (.slice (some ⟨bu, ou, none⟩) us.length cd) (fun W hW => by simp [execOp, F3.out W hW, Result.andThen, go_sem]) ?_
          go_big_quiet_on
          try simp only [Act.put]
          try simp only [List.setIfInBounds_toArray]
          try simp only [List.set_cons_succ]
          try simp only [List.set_cons_zero]
          go_big_quiet_step ((first | (intro _; rfl) | (intro _; exact ⟨rfl, rfl⟩)))
          go_big_quiet_step ((first | (intro _; rfl) | (intro _; exact ⟨rfl, rfl⟩)))
          go_big_quiet_want
          refine quiet_run (.string su) (fun W hW => by simp [execOp, HU.out W hW, Result.andThen, go_sem]) ?_
          go_big_quiet_on
          try simp only [Act.put]
          try simp only [List.setIfInBounds_toArray]
          try simp only [List.set_cons_succ]
          try simp only [List.set_cons_zero]
          go_big_quiet_step ((first | (intro _; rfl) | (intro _; exact ⟨rfl, rfl⟩)))
          go_big_quiet_want
          refine quiet_run (.string so) (fun W hW => by simp [execOp, F4.out W hW, Result.andThen, go_sem]) ?_
          go_big_quiet_on
          try simp only [Act.put]
          try simp only [List.setIfInBounds_toArray]
          try simp only [List.set_cons_succ]
          try simp only [List.set_cons_zero]
          go_big_quiet_step ((intro hb; refine (RX.out _ hb).mono ?_; rintro x wc ⟨rfl, hb2⟩; exact ⟨rfl, hb2⟩))
          repeat (go_big_quiet_step ((first | (intro _; rfl) | (intro _; exact ⟨rfl, rfl⟩))))
          refine wpQuiet_nil ?_
          intro v4 hb
          have Hv4 := hideIt hb
          clear hb
          go_wp2_with fail
          go_roundg (gk - 1)
          case measure => omega
          case rel => exact ⟨k + 1, by omega, by go_num, Hv4.out⟩
        · have hki : ¬ (k : Int) < (us.length : Int) := by omega
          go_wp2_with fail
          go_ret
          exact ⟨rfl, HB01.out.trans (HJ.out.mono HB01.out.size)⟩

end Go.Proofs.YtihepogccgcfkaaDoor.fieldUnitsMatchSpec
