/-
  The walk of the law: for every code with at most 12 data units and 8 parity units, whatever the units contain (at most 64 bytes each), Recover and Decode return what the specification defines, also for units that belong to no stripe
-/
import Derived.Test.YtpjgmekpnlpjaaaDoorExpK
import Derived.Test.YtpjgmekpnlpjaaaDoorLwE
import Derived.Test.YtpjgmekpnlpjaaaDoorArgD
namespace Go.Proofs.YtpjgmekpnlpjaaaDoor.erasureDecodeMatchesSpec
open Go.RowKit
set_option linter.unusedVariables false

theorem dec_is {w : World} {r : List (List UInt8) × Int} {X : List (List UInt8)} {ee : Int} {fn : FuncId} {args : Array Value} (h : Calls Tryd.prog fn args w (StrRes w r)) (hr : r = (X, ee)) :
    Calls Tryd.prog fn args w fun e w' => ∃ B cb, e = .returned (.tuple #[.slice B X.length cb, .int .i64 ee]) ∧ Sl w' w'.heap.size B 1 X.length (X.map sv) ∧ Below w.heap.size w w' := by
  subst hr
  refine h.mono ?_
  rintro e w' ⟨s, rfl, ho, hb⟩
  obtain ⟨B, cb, rfl, _, _⟩ := own_form ho
  exact ⟨B, cb, rfl, Sl.of_own ho, hb⟩
theorem dec_short (x : Cd) (us : List (List UInt8)) (hs : List Bool) : (decR x us hs).1.length ≤ us.length := by
  unfold decR
  split
  · split
    · show (List.map _ (List.range us.length)).length ≤ _
      rw [List.length_map, List.length_range]; exact Nat.le_refl _
    · exact Nat.zero_le _
  · exact Nat.zero_le _

set_option maxHeartbeats 1600000 in
set_option maxRecDepth 100000 in
theorem walk (a0 : Din) (A0 D0 E0 : Option Addr) (c0 d0 e0 : Nat) (w : World) (x0 : DinIn w a0 A0 D0 E0) (T1 : Tabs w) :
    Calls Tryd.prog 5 #[a0.v A0 D0 E0 c0 d0 e0] w fun e w' => e = .returned (.bool true) ∧ Below w.heap.size w w' := by
  obtain ⟨W0, hW0⟩ : ∃ W, W = w.alloc (.cells (a0.cs A0 D0 E0 c0 d0 e0).toArray 51) := ⟨_, rfl⟩
  have hb0 : Below w.heap.size w W0 := by rw [hW0]; exact below_new w _
  have HB0 := hideIt hb0
  have hbx : Blk W0 w.heap.size 51 (a0.cs A0 D0 E0 c0 d0 e0) := by rw [hW0]; exact Blk.new w _ _
  have HCI := hideIt (x0.cin.keep hb0)
  have HT := hideIt (T1.keep hb0)
  have HXD := hideIt ((x0.dat.below hb0).wide hb0.size)
  have HXE := hideIt ((x0.hav.below hb0).wide hb0.size)
  have HWE := hideIt hW0
  have HSA := hideIt (sanity_any W0 HT.out)
  have hnot := not_b
  have HKC := hideIt (fun (W : World) (h : Below W0.heap.size W0 W) => show W.cell? ⟨w.heap.size, 0, none⟩ = some (sv a0.code.name) ∧ W.cell? ⟨w.heap.size, 1, none⟩ = some (.int .i64 a0.code.field) ∧ W.cell? ⟨w.heap.size, 2, none⟩ = some (.int .i64 a0.code.data) ∧ W.cell? ⟨w.heap.size, 3, none⟩ = some (.slice A0 a0.code.par.length c0) ∧ W.cell? ⟨w.heap.size, 4, none⟩ = some (.int .i64 a0.code.dom) from
    ⟨(hbx.kept h hbx.lt).cell 0, (hbx.kept h hbx.lt).cell 1, (hbx.kept h hbx.lt).cell 2, (hbx.kept h hbx.lt).cell 3, (hbx.kept h hbx.lt).cell 4⟩)
  have HK5 := hideIt (fun (W : World) (h : Below W0.heap.size W0 W) => show W.cell? ⟨w.heap.size, 5, none⟩ = some (.slice D0 a0.data.length d0) from (hbx.kept h hbx.lt).cell 5)
  have HK6 := hideIt (fun (W : World) (h : Below W0.heap.size W0 W) => show W.cell? ⟨w.heap.size, 6, none⟩ = some (.slice E0 a0.hs.length e0) from (hbx.kept h hbx.lt).cell 6)
  have HK7 := hideIt (fun (W : World) (h : Below W0.heap.size W0 W) => show W.cell? ⟨w.heap.size, 7, none⟩ = some (.int .i64 a0.unit) from (hbx.kept h hbx.lt).cell 7)
  have HSM := hideIt (fun (W : World) (h : Below W0.heap.size W0 W) => small_any a0.code A0 c0 W (HCI.out.keep h))
  have HFW := hideIt (fun (W : World) (h : Below W0.heap.size W0 W) => (few_any a0.data x0.b1 D0 d0 W ((HXD.out.below h).wide h.size)).mono (fun e w' (hq : _ ∧ W = w') => show e = .returned (.bool (fewB a0.data)) ∧ Below W.heap.size W w' from ⟨hq.1, hq.2 ▸ Below.refl _ _⟩))
  clear hW0 hb0 hbx x0 T1
  show Calls Tryd.prog _ #[.agg #[sv a0.code.name, .int .i64 a0.code.field, .int .i64 a0.code.data, .slice A0 a0.code.par.length c0, .int .i64 a0.code.dom, .slice D0 a0.data.length d0, .slice E0 a0.hs.length e0, .int .i64 a0.unit]] w _
  by_cases hsm : smB a0.code = true
  · rw [hsm] at HSM
    by_cases hfa : fewB a0.data = true
    · rw [hfa] at HFW
      by_cases h24 : (a0.hs.length : Int) > 24
      · clear hsm hfa
        go_enter Tryd.func5, Tryd.ntmps5
        go_wp2_with (first | (go_at_call 11; rw [← HWE.out]; refine HSA.out.mono ?_; rintro e w1 ⟨rfl, hb1⟩; have HB1 := hideIt hb1; obtain ⟨q0, q1, q2, q3, q4⟩ := HKC.out _ HB1.out; have q5 := HK5.out _ HB1.out; have q6 := HK6.out _ HB1.out; have q7 := HK7.out _ HB1.out; clear hb1 HSA) | (go_at_call 12; refine (HSM.out _ HB1.out).mono ?_; rintro e w2 ⟨rfl, hb2⟩; have HB2 := hideIt (HB1.out.trans (hb2.mono HB1.out.size)); clear q0 q1 q2 q3 q4 q5 q6 q7; obtain ⟨q0, q1, q2, q3, q4⟩ := HKC.out _ HB2.out; have q5 := HK5.out _ HB2.out; have q6 := HK6.out _ HB2.out; have q7 := HK7.out _ HB2.out; clear hb2 HSM) | (go_at_call 13; refine (HFW.out _ HB2.out).mono ?_; rintro e w3 ⟨rfl, hb3⟩; have HB3 := hideIt (HB2.out.trans (hb3.mono HB2.out.size)); clear q0 q1 q2 q3 q4 q5 q6 q7; obtain ⟨q0, q1, q2, q3, q4⟩ := HKC.out _ HB3.out; have q5 := HK5.out _ HB3.out; have q6 := HK6.out _ HB3.out; have q7 := HK7.out _ HB3.out; clear hb3 HFW))
        go_ret
        exact ⟨rfl, HB0.out.trans (HB3.out.mono HB0.out.size)⟩
      · have hu24 := (fewB_is hfa).1
        have hbig : ∀ u ∈ a0.data, u.length ≤ 100000 := fun u hu => Nat.le_trans ((fewB_is hfa).2 u hu) (by decide)
        have hSm := smB_sm hsm
        have hlen : a0.hs.length ≤ 100000 := by omega
        obtain ⟨r1, r2, hr⟩ : ∃ r1 r2, recR a0.code a0.data a0.hs a0.unit = (r1, r2) := ⟨_, _, rfl⟩
        obtain ⟨X, ee, hee⟩ : ∃ X ee, decR a0.code a0.data a0.hs = (X, ee) := ⟨_, _, rfl⟩
        have hXb : X.length ≤ 100000 := by have := dec_short a0.code a0.data a0.hs; rw [hee] at this; exact Nat.le_trans this (by omega)
        have HRA := hideIt (fun (W : World) (h : Below W0.heap.size W0 W) => recover_any a0.code A0 c0 W (HT.out.keep h) (HCI.out.keep h) a0.data hbig D0 d0 ((HXD.out.below h).wide h.size) a0.hs E0 e0 hlen ((HXE.out.below h).wide h.size) a0.unit)
        have HRB := hideIt (fun (W : World) (h : Below W0.heap.size W0 W) => rrecover_any a0.code A0 c0 W (HCI.out.keep h) hSm a0.data hbig D0 d0 ((HXD.out.below h).wide h.size) a0.hs E0 e0 ((HXE.out.below h).wide h.size) a0.unit)
        rw [hr] at HRA HRB
        have HDA := hideIt (fun (W : World) (h : Below W0.heap.size W0 W) => dec_is (decode_any a0.code A0 c0 W (HT.out.keep h) (HCI.out.keep h) a0.data hbig D0 d0 ((HXD.out.below h).wide h.size) a0.hs E0 e0 hlen ((HXE.out.below h).wide h.size)) hee)
        have HDB := hideIt (fun (W : World) (h : Below W0.heap.size W0 W) => dec_is (rdecode_any a0.code A0 c0 W (HCI.out.keep h) hSm a0.data hbig D0 d0 ((HXD.out.below h).wide h.size) a0.hs E0 e0 ((HXE.out.below h).wide h.size)) hee)
        have HST := hideIt (fun (W : World) (A B : Option Addr) c d (h1 : Sl W W.heap.size A 1 X.length (X.map sv)) (h2 : Sl W W.heap.size B 1 X.length (X.map sv)) => by
          have := sameTexts_any X X A B c d W h1 h2 hXb
          rw [decide_eq_true rfl] at this
          exact this)
        dsimp only at HRA HRB
        have heS : binOp .eql 9 (.string (str r1)) (.string (str r1)) = pure (.bool true) := by rw [binOp_string_eql]; simp
        have he2 : binOp .eql 32 (.int .i64 r2) (.int .i64 r2) = pure (.bool true) := by rw [i_eql, decide_eq_true rfl]
        have heE : binOp .eql 32 (.int .i64 ee) (.int .i64 ee) = pure (.bool true) := by rw [i_eql, decide_eq_true rfl]
        generalize str r1 = s1 at *
        clear hsm hfa hu24 hbig hSm hlen hr hee hXb
        go_enter Tryd.func5, Tryd.ntmps5
        go_wp2_with (first
          | (go_at_call 11; rw [← HWE.out]; refine HSA.out.mono ?_; rintro e w1 ⟨rfl, hb1⟩; have HB1 := hideIt hb1; obtain ⟨q0, q1, q2, q3, q4⟩ := HKC.out _ HB1.out; have q5 := HK5.out _ HB1.out; have q6 := HK6.out _ HB1.out; have q7 := HK7.out _ HB1.out; clear hb1 HSA) | (go_at_call 12; refine (HSM.out _ HB1.out).mono ?_; rintro e w2 ⟨rfl, hb2⟩; have HB2 := hideIt (HB1.out.trans (hb2.mono HB1.out.size)); clear q0 q1 q2 q3 q4 q5 q6 q7; obtain ⟨q0, q1, q2, q3, q4⟩ := HKC.out _ HB2.out; have q5 := HK5.out _ HB2.out; have q6 := HK6.out _ HB2.out; have q7 := HK7.out _ HB2.out; clear hb2 HSM) | (go_at_call 13; refine (HFW.out _ HB2.out).mono ?_; rintro e w3 ⟨rfl, hb3⟩; have HB3 := hideIt (HB2.out.trans (hb3.mono HB2.out.size)); clear q0 q1 q2 q3 q4 q5 q6 q7; obtain ⟨q0, q1, q2, q3, q4⟩ := HKC.out _ HB3.out; have q5 := HK5.out _ HB3.out; have q6 := HK6.out _ HB3.out; have q7 := HK7.out _ HB3.out; clear hb3 HFW)
          | (go_at_call 33; refine (HRA.out _ HB3.out).mono ?_; rintro e w4 ⟨rfl, hb4⟩; have HB4 := hideIt (HB3.out.trans (hb4.mono HB3.out.size)); clear q0 q1 q2 q3 q4 q5 q6 q7; obtain ⟨q0, q1, q2, q3, q4⟩ := HKC.out _ HB4.out; have q5 := HK5.out _ HB4.out; have q6 := HK6.out _ HB4.out; have q7 := HK7.out _ HB4.out; clear hb4 HRA)
          | (go_at_call 34; refine (HRB.out _ HB4.out).mono ?_; rintro e w5 ⟨rfl, hb5⟩; have HB5 := hideIt (HB4.out.trans (hb5.mono HB4.out.size)); clear q0 q1 q2 q3 q4 q5 q6 q7; obtain ⟨q0, q1, q2, q3, q4⟩ := HKC.out _ HB5.out; have q5 := HK5.out _ HB5.out; have q6 := HK6.out _ HB5.out; have q7 := HK7.out _ HB5.out; clear hb5 HRB)
          | (go_at_call 35; refine (HDA.out _ HB5.out).mono ?_; rintro e w6 ⟨B6, b6, rfl, hs6, hb6⟩; have HB6 := hideIt (HB5.out.trans (hb6.mono HB5.out.size)); have HS6 := hideIt hs6; clear q0 q1 q2 q3 q4 q5 q6 q7; obtain ⟨q0, q1, q2, q3, q4⟩ := HKC.out _ HB6.out; have q5 := HK5.out _ HB6.out; have q6 := HK6.out _ HB6.out; have q7 := HK7.out _ HB6.out; clear hs6 hb6 HDA)
          | (go_at_call 36; refine (HDB.out _ HB6.out).mono ?_; rintro e w7 ⟨B7, b7, rfl, hs7, hb7⟩; have HB7 := hideIt (HB6.out.trans (hb7.mono HB6.out.size)); have HX7 := hideIt ((HS6.out.below hb7).wide hb7.size); have HY7 := hideIt hs7; clear q0 q1 q2 q3 q4 q5 q6 q7; clear hs7 hb7 HDB HS6)
          | (go_at_call 23; refine (HST.out _ _ _ _ _ HX7.out HY7.out).mono ?_; rintro e w8 ⟨rfl, nq, rfl⟩; clear HST))
        go_ret
        exact ⟨rfl, HB0.out.trans (below_drewN (HB7.out.mono HB0.out.size) _)⟩
    · rw [Bool.eq_false_iff.2 hfa] at HFW
      clear hsm hfa
      go_enter Tryd.func5, Tryd.ntmps5
      go_wp2_with (first | (go_at_call 11; rw [← HWE.out]; refine HSA.out.mono ?_; rintro e w1 ⟨rfl, hb1⟩; have HB1 := hideIt hb1; obtain ⟨q0, q1, q2, q3, q4⟩ := HKC.out _ HB1.out; have q5 := HK5.out _ HB1.out; have q6 := HK6.out _ HB1.out; have q7 := HK7.out _ HB1.out; clear hb1 HSA) | (go_at_call 12; refine (HSM.out _ HB1.out).mono ?_; rintro e w2 ⟨rfl, hb2⟩; have HB2 := hideIt (HB1.out.trans (hb2.mono HB1.out.size)); clear q0 q1 q2 q3 q4 q5 q6 q7; obtain ⟨q0, q1, q2, q3, q4⟩ := HKC.out _ HB2.out; have q5 := HK5.out _ HB2.out; have q6 := HK6.out _ HB2.out; have q7 := HK7.out _ HB2.out; clear hb2 HSM) | (go_at_call 13; refine (HFW.out _ HB2.out).mono ?_; rintro e w3 ⟨rfl, hb3⟩; have HB3 := hideIt (HB2.out.trans (hb3.mono HB2.out.size)); clear q0 q1 q2 q3 q4 q5 q6 q7; obtain ⟨q0, q1, q2, q3, q4⟩ := HKC.out _ HB3.out; have q5 := HK5.out _ HB3.out; have q6 := HK6.out _ HB3.out; have q7 := HK7.out _ HB3.out; clear hb3 HFW))
      go_ret
      exact ⟨rfl, HB0.out.trans (HB3.out.mono HB0.out.size)⟩
  · rw [Bool.eq_false_iff.2 hsm] at HSM
    clear hsm
    go_enter Tryd.func5, Tryd.ntmps5
    go_wp2_with (first | (go_at_call 11; rw [← HWE.out]; refine HSA.out.mono ?_; rintro e w1 ⟨rfl, hb1⟩; have HB1 := hideIt hb1; obtain ⟨q0, q1, q2, q3, q4⟩ := HKC.out _ HB1.out; have q5 := HK5.out _ HB1.out; have q6 := HK6.out _ HB1.out; have q7 := HK7.out _ HB1.out; clear hb1 HSA) | (go_at_call 12; refine (HSM.out _ HB1.out).mono ?_; rintro e w2 ⟨rfl, hb2⟩; have HB2 := hideIt (HB1.out.trans (hb2.mono HB1.out.size)); clear q0 q1 q2 q3 q4 q5 q6 q7; obtain ⟨q0, q1, q2, q3, q4⟩ := HKC.out _ HB2.out; have q5 := HK5.out _ HB2.out; have q6 := HK6.out _ HB2.out; have q7 := HK7.out _ HB2.out; clear hb2 HSM))
    go_ret
    exact ⟨rfl, HB0.out.trans (HB2.out.mono HB0.out.size)⟩

end Go.Proofs.YtpjgmekpnlpjaaaDoor.erasureDecodeMatchesSpec
