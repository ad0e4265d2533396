/-
  For any two integers, their order is that of their encodings, compared byte by byte, and neither encoding is a proper prefix of the other one: the law WireOrder returns true; no condition.
-/
import Derived.Test.YticgbohkgjheaaaVD
import Derived.Test.YticgbohkgjheaaaOrd
namespace Go.Proofs.Yticgbohkgjheaaa.wireOrder
open Go.ChangeShapes Go.WideShapes Go.ChangeAt Go.RowKit
open Go.ChangeMaps (open_string shut_string)
set_option linter.unusedVariables false

theorem own : ownKnob Try.prog.godebug = none := by kernel_rfl
theorem laidOut : laidOutB Try.prog = true := by kernel_rfl

set_option maxHeartbeats 1000000 in
set_option maxRecDepth 100000 in
theorem walk (a0 : Int) (a1 : Int) (w : World) (w0 : -9223372036854775808 ≤ a0 ∧ a0 ≤ 9223372036854775807) (w1 : -9223372036854775808 ≤ a1 ∧ a1 ≤ 9223372036854775807) :
    Calls Try.prog 5 #[.int .i64 a0, .int .i64 a1] w fun e w' => e = .returned (.bool true) ∧ Below w.heap.size w w' := by
  have P1 := hideIt (fun W => int_v a0 W w0.1 w0.2)
  have P2 := hideIt (fun W => int_v a1 W w1.1 w1.2)
  have hle1 := enc_le a0 w0.1 w0.2
  have hle2 := enc_le a1 w1.1 w1.2
  have HL := hideIt (enc_less w0.1 w0.2 w1.1 w1.2)
  have HI : Hid (enc a0 = enc a1 ↔ a0 = a1) := ⟨enc_inj w0.1 w0.2 w1.1 w1.2, fun h => by rw [h]⟩
  have HT : Hid ((enc a0).take (min (enc a0).length (enc a1).length) = (enc a1).take (min (enc a0).length (enc a1).length) ↔ a0 = a1) := ⟨enc_take w0.1 w0.2 w1.1 w1.2, fun h => by rw [h]⟩
  generalize enc a0 = b1 at *
  generalize enc a1 = b2 at *
  have hC1 : Hid (∀ W A c, Sl W W.heap.size A 1 b1.length (b1.map bv) → (convert 26 9 (.slice A b1.length c)).run Try.prog W = .ok (.string ⟨b1.toArray⟩) W) := fun W A c h =>
    conv_bytes (P := Try.prog) (T := 26) (S := 9) (e := 5) Try.underlying26 Try.underlying5 Try.underlying9 (c := c) (l := b1) h
  have hC2 : Hid (∀ W A c, Sl W W.heap.size A 1 b2.length (b2.map bv) → (convert 26 9 (.slice A b2.length c)).run Try.prog W = .ok (.string ⟨b2.toArray⟩) W) := fun W A c h =>
    conv_bytes (P := Try.prog) (T := 26) (S := 9) (e := 5) Try.underlying26 Try.underlying5 Try.underlying9 (c := c) (l := b2) h
  have s1 : (⟨b1.toArray⟩ : ByteArray).size = b1.length := by show b1.toArray.size = _; simp
  have s2 : (⟨b2.toArray⟩ : ByteArray).size = b2.length := by show b2.toArray.size = _; simp
  have F1 : Op.bytesLess (⟨b1.toArray⟩ : ByteArray).toList (⟨b2.toArray⟩ : ByteArray).toList = decide (a0 < a1) := by
    rw [Lib.toList_data, Lib.toList_data]; exact HL.out
  have F2 : ((⟨b1.toArray⟩ : ByteArray).toList == (⟨b2.toArray⟩ : ByteArray).toList) = (a0 == a1) := by
    rw [Lib.toList_data, Lib.toList_data]
    show (b1 == b2) = _
    rw [Bool.eq_iff_iff, beq_iff_eq, beq_iff_eq]; exact HI.out
  have F3 : (((⟨b1.toArray⟩ : ByteArray).extract 0 (min b1.length b2.length)).toList == ((⟨b2.toArray⟩ : ByteArray).extract 0 (min b1.length b2.length)).toList) = (a0 == a1) := by
    rw [Lib.toList_data, Lib.toList_data, ByteArray.data_extract, ByteArray.data_extract, Array.toList_extract, Array.toList_extract]
    show (List.extract b1 0 _ == List.extract b2 0 _) = _
    rw [Bool.eq_iff_iff, beq_iff_eq, beq_iff_eq]
    simpa [List.extract_eq_take_drop] using HT.out
  obtain ⟨K, hK⟩ : ∃ K, K = min b1.length b2.length := ⟨_, rfl⟩
  rw [← hK] at F3
  have hK1 : K ≤ (⟨b1.toArray⟩ : ByteArray).size := by omega
  have hK2 : K ≤ (⟨b2.toArray⟩ : ByteArray).size := by omega
  have HMIN := hideIt (show min ((⟨b1.toArray⟩ : ByteArray).size : Int) ((⟨b2.toArray⟩ : ByteArray).size : Int) = (K : Int) from by omega)
  have HF1 := hideIt F1
  have HF2 := hideIt F2
  have HF3 := hideIt F3
  clear s1 s2 F1 F2 F3 hK HT HL HI
  generalize (⟨b1.toArray⟩ : ByteArray) = S at *
  generalize (⟨b2.toArray⟩ : ByteArray) = T at *
  go_enter Try.func5, Try.ntmps5
  go_wp2_with fail
  go_region_with (first
    | (go_at_call_of 13 (Value.int .i64 a0); refine (P1.out _).mono ?_; rintro x wa ⟨Aa, ca, rfl, ga, ha, hb⟩; have SA := hideIt ha; have BA := hideIt (((Below.refl w.heap.size w).drew).trans hb); have cv1 := hC1.out wa Aa ca ha; clear ha hb)
    | (go_at_call_of 13 (Value.int .i64 a1); refine (P2.out _).mono ?_; rintro x wb ⟨Ab, cb, rfl, gb, ha, hb⟩; have BB := hideIt (BA.out.trans (hb.mono BA.out.size)); have cv2 := hC1.out wb Aa ca (SA.out.next hb); have cv3 := hC2.out wb Ab cb ha; clear ha hb))
  all_goals go_wp2_with fail
  all_goals
    try simp only [HMIN.out]
    have F1 := HF1.out
    have F2 := HF2.out
    have F3 := HF3.out
    refine wp_region_quiet_below (by kernel_rfl) (by kernel_rfl) BB.out ?_
    repeat (go_big_quiet_step (first | (intro hb; refine (sanity_any _).mono ?_; rintro x wc ⟨rfl, hb2⟩; exact ⟨rfl, hb.trans (hb2.mono hb.size)⟩) | (intro _; rfl) | (intro _; exact ⟨rfl, rfl⟩)))
    refine wpQuiet_nil ?_
    intro wc BC
    go_wp2
    go_ret
    exact ⟨rfl, BC⟩

set_option maxRecDepth 100000 in
theorem lifted (os : Os) (started : os.Started) (H : Type) (enc : TypeId × Value → H) :
    ReturnsInHanded {} Try.checked os 5 .any (Rows.wireOrderSpec.pre6 enc Try.prog Try.f5 Rows.wireOrderRow.domain false) (Rows.wireOrderSpec.post enc Try.prog Try.f5 false true false false) := by
  refine returnsInHanded_of_change_sized (C := Try.checked) own started (by kernel_rfl) Try.func5
    (ChangeSpec.witness6 (enc := enc) (C := Try.checked) false ⟨#[], #[.int .i64 0, .int .i64 0], []⟩ 8 (by kernel_rfl) (by kernel_rfl) (by kernel_rfl) (by kernel_rfl)) ?_
  intro W base args ds gs before hval0 hW hcnd hsz0 _
  have hsz : (DataW.weightsEach Try.prog (Try.f5.params.toList ++ Rows.wireOrderSpec.plain.varTypes Try.prog) (ds ++ gs)).all (· ≤ reachBytes) = true := hsz0
  have hval : ∀ (j : Nat) t v, Try.f5.params[j]? = some t → args[j]? = some v → Value.okWide Try.prog W .any base t v := hval0
  have hW' := hW
  obtain ⟨p, q, hA0, hV, rfl, hfz, hnd⟩ := hW
  have hA : DataW.TrodAll enc Try.prog W 0 (fun _ => true) true Try.f5.params.toList args.toList ds p := hA0
  rw [Try.params5] at hA hval hsz
  obtain ⟨v0, vs0, d0, ds0, p0, q0, hargs, rfl, rfl, h0, r0⟩ := trodAll_cons hA
  obtain ⟨v1, vs1, d1, ds1, p1, q1, rfl, rfl, rfl, h1, r1⟩ := trodAll_cons r0
  obtain ⟨rfl, rfl, rfl⟩ := trodAll_nil r1
  obtain rfl : args = #[v0, v1] := by cases args; simp_all
  obtain ⟨rfl, rfl⟩ := trodVars_none hV
  obtain ⟨a0, rfl, rfl, rfl, w0⟩ := open_int Try.underlying3 (hval 0 3 v0 rfl rfl) h0
  obtain ⟨a1, rfl, rfl, rfl, w1⟩ := open_int Try.underlying3 (hval 1 3 v1 rfl rfl) h1
  clear hA0 hval0 hsz0
  refine (walk a0 a1 W (wf_i64 w0) (wf_i64 w1)).mono fun e W' ⟨he, bel⟩ => ?_
  subst he
  exact ⟨_, rfl, _, _, _, [], _, [], hW', trodAll_mk1 (shut_bool Try.underlying4 _), (trodAll_cons_mk (shut_int Try.underlying3 w0) (trodAll_cons_mk (shut_int Try.underlying3 w1) trodAll_mk0)), rfl, bel.frame _, fun h => by cases h⟩

theorem over : Rows.wireOrderRow.holds Try.pinned (OpenSpec.ofChange Rows.wireOrderSpec) :=
  OpenClaim.holds_of_wide 5 Try.f5 rfl rfl rfl rfl rfl rfl rfl ⟨rfl, rfl, rfl, rfl, rfl⟩ rfl rfl rfl rfl rfl (by kernel_rfl) Try.func5 (by kernel_rfl)
    (of_decide_eq_true (by kernel_rfl)) (by unfold Func.isWrapper; first | (rw [if_pos (by decide +kernel)]; kernel_rfl) | (rw [if_neg (by decide +kernel)]; exact ⟨rfl, rfl⟩))
    (fun os started H enc _ => lifted os started H enc)

theorem proved : Rows.WireOrderSaid := over

end Go.Proofs.Yticgbohkgjheaaa.wireOrder
