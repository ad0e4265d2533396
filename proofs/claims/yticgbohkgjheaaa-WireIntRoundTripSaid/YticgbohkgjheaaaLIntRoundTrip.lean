/-
  For every integer and every tail, decoding the integer's encoding followed by the tail returns the integer and the encoding's length, which is from 1 to 9: the law WireIntRoundTrip returns true; no condition.
-/
import Derived.Test.YticgbohkgjheaaaV
namespace Go.Proofs.Yticgbohkgjheaaa.wireIntRoundTrip
open Go.ChangeShapes Go.WideShapes Go.ChangeAt Go.RowKit
open Go.ChangeMaps (open_string shut_string)
set_option linter.unusedVariables false

theorem own : ownKnob Try.prog.godebug = none := by kernel_rfl
theorem laidOut : laidOutB Try.prog = true := by kernel_rfl

set_option maxHeartbeats 400000 in
set_option maxRecDepth 100000 in
theorem walk (a0 : Int) (A1 : Option Addr) (c1 : Nat) (l1 : List UInt8) (w : World) (w0 : -9223372036854775808 ≤ a0 ∧ a0 ≤ 9223372036854775807) (x1 : Sl w w.heap.size A1 1 l1.length (l1.map bv)) (m1 : l1.length ≤ c1) (k1 : c1 ≤ maxLen) (s1 : l1.length ≤ 140737488351232) :
    Calls Try.prog 6 #[.int .i64 a0, .slice A1 l1.length c1] w fun e w' => e = .returned (.bool true) ∧ Below w.heap.size w w' := by
  by_cases hbig : 2000 < l1.length
  · unfold maxLen at k1
    clear x1
    go_enter Try.func6, Try.ntmps6
    go_wp2_with (go_at_call 11; refine (sanity_any _).mono ?_; rintro e w' ⟨rfl, hb⟩; have HB := hideIt hb; clear hb)
    go_ret
    exact ⟨rfl, HB.out⟩
  · obtain ⟨i0, hi, hz0, hz1, hz2⟩ := info_parts Try.info5
    have hle := enc_le a0 w0.1 w0.2
    have hge : 1 ≤ (enc a0).length := by rw [enc_len]; omega
    have HX := hideIt x1
    have HD := hideIt (dec_enc w0.1 w0.2 l1)
    have HI := hideIt (own_int a0 w w0.1 w0.2)
    have HL := hideIt k1
    clear x1 k1
    generalize enc a0 = l at *
    go_enter Try.func6, Try.ntmps6
    go_wp2_with (first
      | (go_at_call 13; refine HI.out.mono ?_; rintro e w1 ⟨Ab, cb, rfl, ho, hb⟩; have HO := hideIt ho; have HB := hideIt hb; have hoc := own_cap ho; obtain ⟨Ac, hcut, hsl⟩ := cut_full Try.underlying26 size1_8 Ab hoc.1; have hcut1 := hcut w1; have HS := hideIt (hsl w1 _ _ (Sl.of_own ho)); clear ho hb hoc hcut hsl)
      | (at_builtin; refine wpList_append_full _ rfl (.tmp 21) (.tmp 22) 26 rfl 5 i0 (.int .u8 0) 1 1 Try.underlying26 hi hz0 hz1 hz2 rfl (by decide) Ac l.length (l.map bv) rfl HS.out A1 l1.length c1 (l1.map bv) rfl ((HX.out.below HB.out).wide HB.out.size) (bv_one _) (by unfold maxLen; omega) (by omega) ?_; intro Ad cd w2 q1 q2 hS2 hb2; have hg := getInt_v Ad _ cd (l ++ l1) w2 (by rw [List.length_append, List.map_append]; exact hS2) (by rw [List.length_append]; exact q1) q2 a0 (l.length : Int) 0 ⟨by rw [HD.out], by rw [HD.out], by rw [HD.out]; rfl⟩; rw [List.length_append] at hg; have HG := hideIt hg; have HB2 := hideIt (HB.out.trans (hb2.mono HB.out.size)); clear hg hS2 hb2 hcut1)
      | (go_at_call 21; refine HG.out.mono ?_; rintro e w' ⟨rfl, rfl⟩)
      | (go_at_call 11; refine (sanity_any _).mono ?_; rintro e w3 ⟨rfl, hb⟩; have HB3 := hideIt (HB2.out.trans (hb.mono HB2.out.size)); clear hb))
    go_ret
    exact ⟨ret_b (decide_eq_true (by omega)), HB3.out⟩

set_option maxRecDepth 100000 in
theorem lifted (os : Os) (started : os.Started) (H : Type) (enc : TypeId × Value → H) :
    ReturnsInHanded {} Try.checked os 6 .any (Rows.wireIntRoundTripSpec.pre6 enc Try.prog Try.f6 Rows.wireIntRoundTripRow.domain false) (Rows.wireIntRoundTripSpec.post enc Try.prog Try.f6 false true false false) := by
  refine returnsInHanded_of_change_sized (C := Try.checked) own started (by kernel_rfl) Try.func6
    (ChangeSpec.witness6 (enc := enc) (C := Try.checked) false ⟨#[], #[.int .i64 0, .slice none 0 0], []⟩ 8 (by kernel_rfl) (by kernel_rfl) (by kernel_rfl) (by kernel_rfl)) ?_
  intro W base args ds gs before hval0 hW hcnd hsz0 _
  have hsz : (DataW.weightsEach Try.prog (Try.f6.params.toList ++ Rows.wireIntRoundTripSpec.plain.varTypes Try.prog) (ds ++ gs)).all (· ≤ reachBytes) = true := hsz0
  have hval : ∀ (j : Nat) t v, Try.f6.params[j]? = some t → args[j]? = some v → Value.okWide Try.prog W .any base t v := hval0
  have hW' := hW
  obtain ⟨p, q, hA0, hV, rfl, hfz, hnd⟩ := hW
  have hA : DataW.TrodAll enc Try.prog W 0 (fun _ => true) true Try.f6.params.toList args.toList ds p := hA0
  rw [Try.params6] at hA hval hsz
  obtain ⟨v0, vs0, d0, ds0, p0, q0, hargs, rfl, rfl, h0, r0⟩ := trodAll_cons hA
  obtain ⟨v1, vs1, d1, ds1, p1, q1, rfl, rfl, rfl, h1, r1⟩ := trodAll_cons r0
  obtain ⟨rfl, rfl, rfl⟩ := trodAll_nil r1
  obtain rfl : args = #[v0, v1] := by cases args; simp_all
  obtain ⟨rfl, rfl⟩ := trodVars_none hV
  obtain ⟨a0, rfl, rfl, rfl, w0⟩ := open_int Try.underlying3 (hval 0 3 v0 rfl rfl) h0
  obtain ⟨a1, len1, cap1, rfl⟩ := okWide_slice Try.underlying26 (hval 1 26 v1 rfl rfl)
  have k1 := h1
  have lt1 : ∀ x ∈ p1, x.block < W.heap.size := by obtain ⟨m, hm⟩ := k1; exact DataW.trod_lt m _ _ _ hm
  obtain ⟨m1, n1, dd1, l1, rfl, x1⟩ := open_bytes h1
  have s1 : l1.length ≤ 140737488351232 := by
    rcases dd1 with ⟨_, e0⟩ | ⟨es, rs, e1, e0⟩
    · omega
    · subst e1
      have h7 := sized_slice hsz (j := 1) (t := 26) (e := 5) (elems := es) (spare := rs) rfl rfl Try.underlying26
      have h8 : Try.prog.bytesOf 5 = 1 := by kernel_rfl
      rw [h8] at h7
      simp only [reachBytes] at h7
      omega
  clear hA0 hval0 hsz0
  refine (walk a0 a1 cap1 l1 W (wf_i64 w0) x1 m1 n1 s1).mono fun e W' ⟨he, bel⟩ => ?_
  subst he
  exact ⟨_, rfl, _, _, _, [], _, [], hW', trodAll_mk1 (shut_bool Try.underlying4 _), (trodAll_cons_mk (shut_int Try.underlying3 w0) (trodAll_cons_mk (Below.trod laidOut (by kernel_rfl) (of_decide_eq_true (by kernel_rfl)) k1 bel lt1) trodAll_mk0)), rfl, bel.frame _, fun h => by cases h⟩

theorem over : Rows.wireIntRoundTripRow.holds Try.pinned (OpenSpec.ofChange Rows.wireIntRoundTripSpec) :=
  OpenClaim.holds_of_wide 6 Try.f6 rfl rfl rfl rfl rfl rfl rfl ⟨rfl, rfl, rfl, rfl, rfl⟩ rfl rfl rfl rfl rfl (by kernel_rfl) Try.func6 (by kernel_rfl)
    (of_decide_eq_true (by kernel_rfl)) (by unfold Func.isWrapper; first | (rw [if_pos (by decide +kernel)]; kernel_rfl) | (rw [if_neg (by decide +kernel)]; exact ⟨rfl, rfl⟩))
    (fun os started H enc _ => lifted os started H enc)

theorem proved : Rows.WireIntRoundTripSaid := over

end Go.Proofs.Yticgbohkgjheaaa.wireIntRoundTrip
