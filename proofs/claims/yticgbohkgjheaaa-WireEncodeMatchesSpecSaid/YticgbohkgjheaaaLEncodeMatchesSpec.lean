/-
  For every integer, string, list of integers and list of digests, the encoding is that of the reference: the law WireEncodeMatchesSpec returns true; no condition.
-/
import Derived.Test.YticgbohkgjheaaaVR
namespace Go.Proofs.Yticgbohkgjheaaa.wireEncodeMatchesSpec
open Go.ChangeShapes Go.WideShapes Go.ChangeAt Go.RowKit
open Go.ChangeMaps (open_string shut_string)
set_option linter.unusedVariables false

theorem own : ownKnob Try.prog.godebug = none := by kernel_rfl
theorem laidOut : laidOutB Try.prog = true := by kernel_rfl

set_option maxHeartbeats 1000000 in
set_option maxRecDepth 100000 in
theorem walk (a0 : Int) (a1 : ByteArray) (A2 : Option Addr) (c2 : Nat) (l2 : List Int) (A3 : Option Addr) (c3 : Nat) (l3 : List (List UInt8)) (w : World) (w0 : -9223372036854775808 ≤ a0 ∧ a0 ≤ 9223372036854775807) (w1 : a1.size ≤ maxLen) (s1 : a1.size ≤ 140737488351232) (x2 : Sl w w.heap.size A2 1 l2.length (l2.map iv)) (m2 : l2.length ≤ c2) (k2 : c2 ≤ maxLen) (w2 : ∀ n ∈ l2, -9223372036854775808 ≤ n ∧ n ≤ 9223372036854775807) (s2 : l2.length ≤ 140737488351232) (x3 : Sl w w.heap.size A3 16 l3.length (l3.flatten.map bv)) (m3 : l3.length ≤ c3) (k3 : c3 ≤ maxLen) (w3 : ∀ d ∈ l3, d.length = 16) (s3 : l3.length ≤ 140737488351232) :
    Calls Try.prog 3 #[.int .i64 a0, .string a1, .slice A2 l2.length c2, .slice A3 l3.length c3] w fun e w' => e = .returned (.bool true) ∧ Below w.heap.size w w' := by
  by_cases hbig : 2000 < a1.size + l2.length + l3.length
  · clear x2 x3
    go_enter Try.func3, Try.ntmps3
    go_wp2_with (go_at_call 11; refine (sanity_any _).mono ?_; rintro e w' ⟨rfl, hb⟩; have HB := hideIt hb; clear hb)
    go_ret
    exact ⟨rfl, HB.out⟩
  · have hsz : a1.data.toList.length = a1.size := by rw [Array.length_toList]; rfl
    have q1 := enc_le a0 w0.1 w0.2
    have q2 : (encB a1.data.toList).length ≤ 3000 := by have := encB_le a1.data.toList (by omega); omega
    have q3 : (encI l2).length ≤ 30000 := by have := encI_le l2 (by omega) w2; omega
    have q4 : (encD l3).length ≤ 40000 := by have := encD_le l3 (by omega) w3; omega
    have X2 := hideIt x2
    have X3 := hideIt x3
    have P1 := hideIt (fun W => int_v a0 W w0.1 w0.2)
    have R1 := hideIt (fun W => refInt_v a0 W w0.1 w0.2)
    have P2 := hideIt (fun W => bytes_v a1 W (by omega))
    have R2 := hideIt (fun W => refBytes_v a1 W (by omega))
    have P3 := hideIt (fun W h => ints_v A2 c2 l2 W h w2 (by omega))
    have R3 := hideIt (fun W h => refInts_v A2 c2 l2 W h w2 (by omega))
    have P4 := hideIt (fun W h => digs_v A3 c3 l3 W h w3 (by omega))
    have R4 := hideIt (fun W h => refDigs_v A3 c3 l3 W h w3 (by omega))
    clear x2 x3 w2 w3 k2 k3 hsz
    generalize enc a0 = b1 at *
    generalize encB a1.data.toList = b2 at *
    generalize encI l2 = b3 at *
    generalize encD l3 = b4 at *
    go_enter Try.func3, Try.ntmps3
    go_wp2_with fail
    refine (sanity_any w).mono ?_
    rintro x wz ⟨rfl, hb⟩
    have BW := hideIt hb
    clear hb
    go_wp2_with fail
    refine (P1.out wz).mono ?_
    rintro x wa1 ⟨Aa, ca, rfl, ga, ha, hb⟩
    have BA1 := hideIt (BW.out.trans (hb.mono BW.out.size))
    have SA := hideIt ha
    clear ha hb BW
    go_wp2_with fail
    refine (R1.out wa1).mono ?_
    rintro x wb1 ⟨Ab, cb, rfl, gb, ha, hb⟩
    have BB1 := hideIt (BA1.out.trans (hb.mono BA1.out.size))
    have SA2 := hideIt (SA.out.next hb)
    have SB := hideIt ha
    clear ha hb BA1 SA
    go_wp2_with fail
    refine (same_v Aa Ab ca cb b1 wb1 SA2.out SB.out (by omega)).mono ?_
    rintro x w' ⟨rfl, n1, rfl⟩
    have BW := hideIt (below_drewN BB1.out n1)
    clear SA2 SB BB1
    generalize wb1.drewN n1 = wy1 at *
    go_wp2_with fail
    refine (P2.out wy1).mono ?_
    rintro x wa2 ⟨Aa, ca, rfl, ga, ha, hb⟩
    have BA2 := hideIt (BW.out.trans (hb.mono BW.out.size))
    have SA := hideIt ha
    clear ha hb BW
    go_wp2_with fail
    refine (R2.out wa2).mono ?_
    rintro x wb2 ⟨Ab, cb, rfl, gb, ha, hb⟩
    have BB2 := hideIt (BA2.out.trans (hb.mono BA2.out.size))
    have SA2 := hideIt (SA.out.next hb)
    have SB := hideIt ha
    clear ha hb BA2 SA
    go_wp2_with fail
    refine (same_v Aa Ab ca cb b2 wb2 SA2.out SB.out (by omega)).mono ?_
    rintro x w' ⟨rfl, n2, rfl⟩
    have BW := hideIt (below_drewN BB2.out n2)
    clear SA2 SB BB2
    generalize wb2.drewN n2 = wy2 at *
    go_wp2_with fail
    refine (P3.out wy2 ((X2.out.next BW.out))).mono ?_
    rintro x wa3 ⟨Aa, ca, rfl, ga, ha, hb⟩
    have BA3 := hideIt (BW.out.trans (hb.mono BW.out.size))
    have SA := hideIt ha
    clear ha hb BW
    go_wp2_with fail
    refine (R3.out wa3 ((X2.out.next BA3.out))).mono ?_
    rintro x wb3 ⟨Ab, cb, rfl, gb, ha, hb⟩
    have BB3 := hideIt (BA3.out.trans (hb.mono BA3.out.size))
    have SA2 := hideIt (SA.out.next hb)
    have SB := hideIt ha
    clear ha hb BA3 SA
    go_wp2_with fail
    refine (same_v Aa Ab ca cb b3 wb3 SA2.out SB.out (by omega)).mono ?_
    rintro x w' ⟨rfl, n3, rfl⟩
    have BW := hideIt (below_drewN BB3.out n3)
    clear SA2 SB BB3
    generalize wb3.drewN n3 = wy3 at *
    go_wp2_with fail
    refine (P4.out wy3 ((X3.out.next BW.out))).mono ?_
    rintro x wa4 ⟨Aa, ca, rfl, ga, ha, hb⟩
    have BA4 := hideIt (BW.out.trans (hb.mono BW.out.size))
    have SA := hideIt ha
    clear ha hb BW
    go_wp2_with fail
    refine (R4.out wa4 ((X3.out.next BA4.out))).mono ?_
    rintro x wb4 ⟨Ab, cb, rfl, gb, ha, hb⟩
    have BB4 := hideIt (BA4.out.trans (hb.mono BA4.out.size))
    have SA2 := hideIt (SA.out.next hb)
    have SB := hideIt ha
    clear ha hb BA4 SA
    go_wp2_with fail
    refine (same_v Aa Ab ca cb b4 wb4 SA2.out SB.out (by omega)).mono ?_
    rintro x w' ⟨rfl, n4, rfl⟩
    have BW := hideIt (below_drewN BB4.out n4)
    clear SA2 SB BB4
    go_wp2
    go_ret
    exact ⟨rfl, BW.out⟩

set_option maxRecDepth 100000 in
theorem lifted (os : Os) (started : os.Started) (H : Type) (enc : TypeId × Value → H) :
    ReturnsInHanded {} Try.checked os 3 .any (Rows.wireEncodeMatchesSpecSpec.pre6 enc Try.prog Try.f3 Rows.wireEncodeMatchesSpecRow.domain false) (Rows.wireEncodeMatchesSpecSpec.post enc Try.prog Try.f3 false true false false) := by
  refine returnsInHanded_of_change_sized (C := Try.checked) own started (by kernel_rfl) Try.func3
    (ChangeSpec.witness6 (enc := enc) (C := Try.checked) false ⟨#[], #[.int .i64 0, .string ByteArray.empty, .slice none 0 0, .slice none 0 0], []⟩ 8 (by kernel_rfl) (by kernel_rfl) (by kernel_rfl) (by kernel_rfl)) ?_
  intro W base args ds gs before hval0 hW hcnd hsz0 _
  have hsz : (DataW.weightsEach Try.prog (Try.f3.params.toList ++ Rows.wireEncodeMatchesSpecSpec.plain.varTypes Try.prog) (ds ++ gs)).all (· ≤ reachBytes) = true := hsz0
  have hval : ∀ (j : Nat) t v, Try.f3.params[j]? = some t → args[j]? = some v → Value.okWide Try.prog W .any base t v := hval0
  have hW' := hW
  obtain ⟨p, q, hA0, hV, rfl, hfz, hnd⟩ := hW
  have hA : DataW.TrodAll enc Try.prog W 0 (fun _ => true) true Try.f3.params.toList args.toList ds p := hA0
  rw [Try.params3] at hA hval hsz
  obtain ⟨v0, vs0, d0, ds0, p0, q0, hargs, rfl, rfl, h0, r0⟩ := trodAll_cons hA
  obtain ⟨v1, vs1, d1, ds1, p1, q1, rfl, rfl, rfl, h1, r1⟩ := trodAll_cons r0
  obtain ⟨v2, vs2, d2, ds2, p2, q2, rfl, rfl, rfl, h2, r2⟩ := trodAll_cons r1
  obtain ⟨v3, vs3, d3, ds3, p3, q3, rfl, rfl, rfl, h3, r3⟩ := trodAll_cons r2
  obtain ⟨rfl, rfl, rfl⟩ := trodAll_nil r3
  obtain rfl : args = #[v0, v1, v2, v3] := by cases args; simp_all
  obtain ⟨rfl, rfl⟩ := trodVars_none hV
  obtain ⟨a0, rfl, rfl, rfl, w0⟩ := open_int Try.underlying3 (hval 0 3 v0 rfl rfl) h0
  obtain ⟨a1, rfl, rfl, rfl, w1⟩ := open_string Try.underlying9 (hval 1 9 v1 rfl rfl) h1
  have s1 : a1.size ≤ 140737488351232 := by
    have h7 : a1.data.toList.length ≤ reachBytes := sized_string hsz (j := 1) (t := 9) rfl rfl
    have h8 : a1.data.toList.length = a1.size := by rw [Array.length_toList]; rfl
    simp only [reachBytes] at h7
    omega
  obtain ⟨a2, len2, cap2, rfl⟩ := okWide_slice Try.underlying22 (hval 2 22 v2 rfl rfl)
  have k2 := h2
  have lt2 : ∀ x ∈ p2, x.block < W.heap.size := by obtain ⟨m, hm⟩ := k2; exact DataW.trod_lt m _ _ _ hm
  obtain ⟨m2, n2, dd2, l2, rfl, x2, w2⟩ := open_nums h2
  have s2 : l2.length ≤ 140737488351232 := by
    rcases dd2 with ⟨_, e0⟩ | ⟨es, rs, e1, e0⟩
    · omega
    · subst e1
      have h7 := sized_slice hsz (j := 2) (t := 22) (e := 3) (elems := es) (spare := rs) rfl rfl Try.underlying22
      have h8 : Try.prog.bytesOf 3 = 8 := by kernel_rfl
      rw [h8] at h7
      simp only [reachBytes] at h7
      omega
  obtain ⟨a3, len3, cap3, rfl⟩ := okWide_slice Try.underlying23 (hval 3 23 v3 rfl rfl)
  have k3 := h3
  have lt3 : ∀ x ∈ p3, x.block < W.heap.size := by obtain ⟨m, hm⟩ := k3; exact DataW.trod_lt m _ _ _ hm
  obtain ⟨m3, n3, dd3, l3, rfl, x3, w3⟩ := open_digs h3
  have s3 : l3.length ≤ 140737488351232 := by
    rcases dd3 with ⟨_, e0⟩ | ⟨es, rs, e1, e0⟩
    · omega
    · subst e1
      have h7 := sized_slice hsz (j := 3) (t := 23) (e := 51) (elems := es) (spare := rs) rfl rfl Try.underlying23
      have h8 : Try.prog.bytesOf 51 = 16 := by kernel_rfl
      rw [h8] at h7
      simp only [reachBytes] at h7
      omega
  clear hA0 hval0 hsz0
  refine (walk a0 a1 a2 cap2 l2 a3 cap3 l3 W (wf_i64 w0) w1 s1 x2 m2 n2 w2 s2 x3 m3 n3 w3 s3).mono fun e W' ⟨he, bel⟩ => ?_
  subst he
  exact ⟨_, rfl, _, _, _, [], _, [], hW', trodAll_mk1 (shut_bool Try.underlying4 _), (trodAll_cons_mk (shut_int Try.underlying3 w0) (trodAll_cons_mk (shut_string Try.underlying9 w1) (trodAll_cons_mk (Below.trod laidOut (by kernel_rfl) (of_decide_eq_true (by kernel_rfl)) k2 bel lt2) (trodAll_cons_mk (Below.trod laidOut (by kernel_rfl) (of_decide_eq_true (by kernel_rfl)) k3 bel lt3) trodAll_mk0)))), rfl, bel.frame _, fun h => by cases h⟩

theorem over : Rows.wireEncodeMatchesSpecRow.holds Try.pinned (OpenSpec.ofChange Rows.wireEncodeMatchesSpecSpec) :=
  OpenClaim.holds_of_wide 3 Try.f3 rfl rfl rfl rfl rfl rfl rfl ⟨rfl, rfl, rfl, rfl, rfl⟩ rfl rfl rfl rfl rfl (by kernel_rfl) Try.func3 (by kernel_rfl)
    (of_decide_eq_true (by kernel_rfl)) (by unfold Func.isWrapper; first | (rw [if_pos (by decide +kernel)]; kernel_rfl) | (rw [if_neg (by decide +kernel)]; exact ⟨rfl, rfl⟩))
    (fun os started H enc _ => lifted os started H enc)

theorem proved : Rows.WireEncodeMatchesSpecSaid := over

end Go.Proofs.Yticgbohkgjheaaa.wireEncodeMatchesSpec
