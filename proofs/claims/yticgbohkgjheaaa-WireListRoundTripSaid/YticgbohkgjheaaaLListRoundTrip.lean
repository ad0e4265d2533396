/-
  For every string, list of integers, list of digests and every tail, decoding each encoding followed by the tail returns the value and the encoding's length: the law WireListRoundTrip returns true; no condition.
-/
import Derived.Test.YticgbohkgjheaaaV
namespace Go.Proofs.Yticgbohkgjheaaa.wireListRoundTrip
open Go.ChangeShapes Go.WideShapes Go.ChangeAt Go.RowKit
open Go.ChangeMaps (open_string shut_string)
set_option linter.unusedVariables false

theorem own : ownKnob Try.prog.godebug = none := by kernel_rfl
theorem laidOut : laidOutB Try.prog = true := by kernel_rfl

set_option maxHeartbeats 1000000 in
set_option maxRecDepth 100000 in
theorem walk (a0 : ByteArray) (A1 : Option Addr) (c1 : Nat) (l1 : List Int) (A2 : Option Addr) (c2 : Nat) (l2 : List (List UInt8)) (A3 : Option Addr) (c3 : Nat) (l3 : List UInt8) (w : World) (w0 : a0.size ≤ maxLen) (s0 : a0.size ≤ 140737488351232) (x1 : Sl w w.heap.size A1 1 l1.length (l1.map iv)) (m1 : l1.length ≤ c1) (k1 : c1 ≤ maxLen) (w1 : ∀ n ∈ l1, -9223372036854775808 ≤ n ∧ n ≤ 9223372036854775807) (s1 : l1.length ≤ 140737488351232) (x2 : Sl w w.heap.size A2 16 l2.length (l2.flatten.map bv)) (m2 : l2.length ≤ c2) (k2 : c2 ≤ maxLen) (w2 : ∀ d ∈ l2, d.length = 16) (s2 : l2.length ≤ 140737488351232) (x3 : Sl w w.heap.size A3 1 l3.length (l3.map bv)) (m3 : l3.length ≤ c3) (k3 : c3 ≤ maxLen) (s3 : l3.length ≤ 140737488351232) :
    Calls Try.prog 8 #[.string a0, .slice A1 l1.length c1, .slice A2 l2.length c2, .slice A3 l3.length c3] w fun e w' => e = .returned (.bool true) ∧ Below w.heap.size w w' := by
  by_cases hbig : 2000 < a0.size + l1.length + l2.length + l3.length
  · clear x1 x2 x3
    go_enter Try.func8, Try.ntmps8
    go_wp2_with (go_at_call 11; refine (sanity_any _).mono ?_; rintro e w' ⟨rfl, hb⟩; have HB := hideIt hb; clear hb)
    go_ret
    exact ⟨rfl, HB.out⟩
  · obtain ⟨i0, hi, hz0, hz1, hz2⟩ := info_parts Try.info5
    have hsz : a0.data.toList.length = a0.size := by rw [Array.length_toList]; rfl
    have qa : (encB a0.data.toList).length ≤ 3000 := by have := encB_le a0.data.toList (by omega); omega
    have qb : (encI l1).length ≤ 30000 := by have := encI_le l1 (by omega) w1; omega
    have qc : (encD l2).length ≤ 40000 := by have := encD_le l2 (by omega) w2; omega
    have X1 := hideIt x1
    have X2 := hideIt x2
    have X3 := hideIt x3
    have W2 := hideIt w2
    have H1 := hideIt (bytes_v a0 w (by omega))
    have H2 := hideIt (fun W (h : Sl W W.heap.size A1 1 l1.length (l1.map iv)) => ints_v A1 c1 l1 W h w1 (by omega))
    have H3 := hideIt (fun W (h : Sl W W.heap.size A2 16 l2.length (l2.flatten.map bv)) => digs_v A2 c2 l2 W h w2 (by omega))
    have D1 := hideIt (decB_enc a0.data.toList l3 (by omega))
    have D2 := hideIt (decI_enc l1 l3 (by omega) w1)
    have D3 := hideIt (decD_enc l2 l3 (by omega) w2)
    clear x1 x2 x3 w1 w2 hsz k1 k2
    have K3 := hideIt k3
    clear k3
    generalize encB a0.data.toList = la at *
    generalize encI l1 = lb at *
    generalize encD l2 = lc at *
    go_enter Try.func8, Try.ntmps8
    go_wp2_with (first
      | (go_at_call 15; refine H1.out.mono ?_; rintro e wa ⟨Aa, ca, rfl, ga, ha, hb⟩; have B1 := hideIt hb; have SA := hideIt ha; clear hb ha)
      | (go_at_call 17; refine (H2.out wa ((X1.out.below B1.out).wide B1.out.size)).mono ?_; rintro e wb ⟨Ab, cb, rfl, gb, ha, hb⟩; have B2 := hideIt (B1.out.trans (hb.mono B1.out.size)); have SA2 := hideIt ((SA.out.below hb).wide hb.size); have SB := hideIt ha; clear hb ha)
      | (go_at_call 19; refine (H3.out wb ((X2.out.below B2.out).wide B2.out.size)).mono ?_; rintro e wc ⟨Ac, cc, rfl, gc, ha, hb⟩; have B3 := hideIt (B2.out.trans (hb.mono B2.out.size)); have SA3 := hideIt ((SA2.out.below hb).wide hb.size); have SB3 := hideIt ((SB.out.below hb).wide hb.size); have SC := hideIt ha; obtain ⟨Ad, hcut, hsl⟩ := cut_full Try.underlying26 size1_8 Aa ga; have hcut1 := hcut wc; have SD := hideIt (hsl wc _ _ SA3.out); clear hb ha hcut hsl)
      | (at_builtin; refine wpList_append_full _ rfl (.tmp 46) (.tmp 47) 26 rfl 5 i0 (.int .u8 0) 1 1 Try.underlying26 hi hz0 hz1 hz2 rfl (by decide) Ad la.length (la.map bv) rfl SD.out A3 l3.length c3 (l3.map bv) rfl ((X3.out.below B3.out).wide B3.out.size) (bv_one _) (by unfold maxLen; omega) (by omega) ?_; intro Ae ce wd q1 q2 ha hb; have hg := getBytes_v Ae _ ce (la ++ l3) wd (by rw [List.length_append, List.map_append]; exact ha) (by rw [List.length_append]; exact q1) q2 a0 (la.length : Int) 0 ⟨by rw [D1.out], by rw [D1.out], by rw [D1.out]; rfl⟩; rw [List.length_append] at hg; have G1 := hideIt hg; have B4 := hideIt (B3.out.trans (hb.mono B3.out.size)); have SB4 := hideIt ((SB3.out.below hb).wide hb.size); have SC4 := hideIt ((SC.out.below hb).wide hb.size); clear hcut1; obtain ⟨Af, hcut, hsl⟩ := cut_full Try.underlying26 size1_8 Ab gb; have hcut1 := hcut wd; have SF := hideIt (hsl wd _ _ SB4.out); clear hg ha hb hcut hsl)
      | (go_at_call 23; refine G1.out.mono ?_; rintro e w' ⟨rfl, rfl⟩)
      | (at_builtin; refine wpList_append_full _ rfl (.tmp 59) (.tmp 60) 26 rfl 5 i0 (.int .u8 0) 1 1 Try.underlying26 hi hz0 hz1 hz2 rfl (by decide) Af lb.length (lb.map bv) rfl SF.out A3 l3.length c3 (l3.map bv) rfl ((X3.out.below B4.out).wide B4.out.size) (bv_one _) (by unfold maxLen; omega) (by omega) ?_; intro Ag cg we q1 q2 ha hb; have hg := getInts_v Ag cg (lb ++ l3) we (by rw [List.length_append, List.map_append]; exact ha) (by rw [List.length_append]; exact q1) q2 (by rw [List.length_append]; omega) l1 (lb.length : Int) 0 ⟨by rw [D2.out], by rw [D2.out], by rw [D2.out]; rfl⟩; rw [List.length_append] at hg; have G2 := hideIt hg; have B5 := hideIt (B4.out.trans (hb.mono B4.out.size)); have SC5 := hideIt ((SC4.out.below hb).wide hb.size); clear hcut1 hg ha hb)
      | (go_at_call 25; refine G2.out.mono ?_; rintro e wf ⟨Ah, ch, rfl, ha, hb⟩; have B6 := hideIt (B5.out.trans (hb.mono B5.out.size)); have SC6 := hideIt ((SC5.out.below hb).wide hb.size); have SH := hideIt ha; obtain ⟨Ai, hcut, hsl⟩ := cut_full Try.underlying26 size1_8 Ac gc; have hcut1 := hcut wf; have SI := hideIt (hsl wf _ _ SC6.out); clear ha hb hcut hsl)
      | (at_builtin; refine wpList_append_full _ rfl (.tmp 72) (.tmp 73) 26 rfl 5 i0 (.int .u8 0) 1 1 Try.underlying26 hi hz0 hz1 hz2 rfl (by decide) Ai lc.length (lc.map bv) rfl SI.out A3 l3.length c3 (l3.map bv) rfl ((X3.out.below B6.out).wide B6.out.size) (bv_one _) (by unfold maxLen; omega) (by omega) ?_; intro Aj cj wg q1 q2 ha hb; have hg := getDigs_v Aj cj (lc ++ l3) wg (by rw [List.length_append, List.map_append]; exact ha) (by rw [List.length_append]; exact q1) q2 (by rw [List.length_append]; omega) l2 (lc.length : Int) 0 ⟨by rw [D3.out], by rw [D3.out], by rw [D3.out]; rfl⟩; rw [List.length_append] at hg; have G3 := hideIt hg; have B7 := hideIt (B6.out.trans (hb.mono B6.out.size)); have SH7 := hideIt ((SH.out.below hb).wide hb.size); clear hcut1 hg ha hb)
      | (go_at_call 28; refine G3.out.mono ?_; rintro e wh ⟨Ak, ck, rfl, ha, hb⟩; have B8 := hideIt (B7.out.trans (hb.mono B7.out.size)); have SH8 := hideIt ((SH7.out.below hb).wide hb.size); have SK := hideIt ha; clear ha hb)
      | (go_at_call 11; refine (sanity_any _).mono ?_; rintro e wi ⟨rfl, hb⟩; have B9 := hideIt (B8.out.trans (hb.mono B8.out.size)); have SH9 := hideIt ((SH8.out.below hb).wide hb.size); have SK9 := hideIt ((SK.out.below hb).wide hb.size); clear hb)
      | (go_at_call 27; refine (sameInts_any Ah A1 _ _ ch c1 l1 l1 _ SH9.out ((X1.out.below B9.out).wide B9.out.size) (by omega) (by omega)).mono ?_; rintro e w' ⟨rfl, n1, rfl⟩; have B10 := hideIt (below_drewN B9.out n1))
      | (go_at_call 30; refine (sameDigs_any Ak A2 _ _ ck c2 l2 l2 _ (SK9.out.drewN n1) (((X2.out.below B9.out).wide B9.out.size).drewN n1) W2.out W2.out (by omega) (by omega)).mono ?_; rintro e w' ⟨rfl, n2, rfl⟩; have B11 := hideIt (below_drewN B10.out n2)))
    go_ret
    exact ⟨rfl, below_drewN B9.out _⟩

set_option maxRecDepth 100000 in
theorem lifted (os : Os) (started : os.Started) (H : Type) (enc : TypeId × Value → H) :
    ReturnsInHanded {} Try.checked os 8 .any (Rows.wireListRoundTripSpec.pre6 enc Try.prog Try.f8 Rows.wireListRoundTripRow.domain false) (Rows.wireListRoundTripSpec.post enc Try.prog Try.f8 false true false false) := by
  refine returnsInHanded_of_change_sized (C := Try.checked) own started (by kernel_rfl) Try.func8
    (ChangeSpec.witness6 (enc := enc) (C := Try.checked) false ⟨#[], #[.string ByteArray.empty, .slice none 0 0, .slice none 0 0, .slice none 0 0], []⟩ 8 (by kernel_rfl) (by kernel_rfl) (by kernel_rfl) (by kernel_rfl)) ?_
  intro W base args ds gs before hval0 hW hcnd hsz0 _
  have hsz : (DataW.weightsEach Try.prog (Try.f8.params.toList ++ Rows.wireListRoundTripSpec.plain.varTypes Try.prog) (ds ++ gs)).all (· ≤ reachBytes) = true := hsz0
  have hval : ∀ (j : Nat) t v, Try.f8.params[j]? = some t → args[j]? = some v → Value.okWide Try.prog W .any base t v := hval0
  have hW' := hW
  obtain ⟨p, q, hA0, hV, rfl, hfz, hnd⟩ := hW
  have hA : DataW.TrodAll enc Try.prog W 0 (fun _ => true) true Try.f8.params.toList args.toList ds p := hA0
  rw [Try.params8] at hA hval hsz
  obtain ⟨v0, vs0, d0, ds0, p0, q0, hargs, rfl, rfl, h0, r0⟩ := trodAll_cons hA
  obtain ⟨v1, vs1, d1, ds1, p1, q1, rfl, rfl, rfl, h1, r1⟩ := trodAll_cons r0
  obtain ⟨v2, vs2, d2, ds2, p2, q2, rfl, rfl, rfl, h2, r2⟩ := trodAll_cons r1
  obtain ⟨v3, vs3, d3, ds3, p3, q3, rfl, rfl, rfl, h3, r3⟩ := trodAll_cons r2
  obtain ⟨rfl, rfl, rfl⟩ := trodAll_nil r3
  obtain rfl : args = #[v0, v1, v2, v3] := by cases args; simp_all
  obtain ⟨rfl, rfl⟩ := trodVars_none hV
  obtain ⟨a0, rfl, rfl, rfl, w0⟩ := open_string Try.underlying9 (hval 0 9 v0 rfl rfl) h0
  have s0 : a0.size ≤ 140737488351232 := by
    have h7 : a0.data.toList.length ≤ reachBytes := sized_string hsz (j := 0) (t := 9) rfl rfl
    have h8 : a0.data.toList.length = a0.size := by rw [Array.length_toList]; rfl
    simp only [reachBytes] at h7
    omega
  obtain ⟨a1, len1, cap1, rfl⟩ := okWide_slice Try.underlying22 (hval 1 22 v1 rfl rfl)
  have k1 := h1
  have lt1 : ∀ x ∈ p1, x.block < W.heap.size := by obtain ⟨m, hm⟩ := k1; exact DataW.trod_lt m _ _ _ hm
  obtain ⟨m1, n1, dd1, l1, rfl, x1, w1⟩ := open_nums h1
  have s1 : l1.length ≤ 140737488351232 := by
    rcases dd1 with ⟨_, e0⟩ | ⟨es, rs, e1, e0⟩
    · omega
    · subst e1
      have h7 := sized_slice hsz (j := 1) (t := 22) (e := 3) (elems := es) (spare := rs) rfl rfl Try.underlying22
      have h8 : Try.prog.bytesOf 3 = 8 := by kernel_rfl
      rw [h8] at h7
      simp only [reachBytes] at h7
      omega
  obtain ⟨a2, len2, cap2, rfl⟩ := okWide_slice Try.underlying23 (hval 2 23 v2 rfl rfl)
  have k2 := h2
  have lt2 : ∀ x ∈ p2, x.block < W.heap.size := by obtain ⟨m, hm⟩ := k2; exact DataW.trod_lt m _ _ _ hm
  obtain ⟨m2, n2, dd2, l2, rfl, x2, w2⟩ := open_digs h2
  have s2 : l2.length ≤ 140737488351232 := by
    rcases dd2 with ⟨_, e0⟩ | ⟨es, rs, e1, e0⟩
    · omega
    · subst e1
      have h7 := sized_slice hsz (j := 2) (t := 23) (e := 51) (elems := es) (spare := rs) rfl rfl Try.underlying23
      have h8 : Try.prog.bytesOf 51 = 16 := by kernel_rfl
      rw [h8] at h7
      simp only [reachBytes] at h7
      omega
  obtain ⟨a3, len3, cap3, rfl⟩ := okWide_slice Try.underlying26 (hval 3 26 v3 rfl rfl)
  have k3 := h3
  have lt3 : ∀ x ∈ p3, x.block < W.heap.size := by obtain ⟨m, hm⟩ := k3; exact DataW.trod_lt m _ _ _ hm
  obtain ⟨m3, n3, dd3, l3, rfl, x3⟩ := open_bytes h3
  have s3 : l3.length ≤ 140737488351232 := by
    rcases dd3 with ⟨_, e0⟩ | ⟨es, rs, e1, e0⟩
    · omega
    · subst e1
      have h7 := sized_slice hsz (j := 3) (t := 26) (e := 5) (elems := es) (spare := rs) rfl rfl Try.underlying26
      have h8 : Try.prog.bytesOf 5 = 1 := by kernel_rfl
      rw [h8] at h7
      simp only [reachBytes] at h7
      omega
  clear hA0 hval0 hsz0
  refine (walk a0 a1 cap1 l1 a2 cap2 l2 a3 cap3 l3 W w0 s0 x1 m1 n1 w1 s1 x2 m2 n2 w2 s2 x3 m3 n3 s3).mono fun e W' ⟨he, bel⟩ => ?_
  subst he
  exact ⟨_, rfl, _, _, _, [], _, [], hW', trodAll_mk1 (shut_bool Try.underlying4 _), (trodAll_cons_mk (shut_string Try.underlying9 w0) (trodAll_cons_mk (Below.trod laidOut (by kernel_rfl) (of_decide_eq_true (by kernel_rfl)) k1 bel lt1) (trodAll_cons_mk (Below.trod laidOut (by kernel_rfl) (of_decide_eq_true (by kernel_rfl)) k2 bel lt2) (trodAll_cons_mk (Below.trod laidOut (by kernel_rfl) (of_decide_eq_true (by kernel_rfl)) k3 bel lt3) trodAll_mk0)))), rfl, bel.frame _, fun h => by cases h⟩

theorem over : Rows.wireListRoundTripRow.holds Try.pinned (OpenSpec.ofChange Rows.wireListRoundTripSpec) :=
  OpenClaim.holds_of_wide 8 Try.f8 rfl rfl rfl rfl rfl rfl rfl ⟨rfl, rfl, rfl, rfl, rfl⟩ rfl rfl rfl rfl rfl (by kernel_rfl) Try.func8 (by kernel_rfl)
    (of_decide_eq_true (by kernel_rfl)) (by unfold Func.isWrapper; first | (rw [if_pos (by decide +kernel)]; kernel_rfl) | (rw [if_neg (by decide +kernel)]; exact ⟨rfl, rfl⟩))
    (fun os started H enc _ => lifted os started H enc)

theorem proved : Rows.WireListRoundTripSaid := over

end Go.Proofs.Yticgbohkgjheaaa.wireListRoundTrip
