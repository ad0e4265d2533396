/-
  For every string and list of integers, their encodings written one after the other are decoded one after the other: the law WireConcat returns true; no condition.
-/
import Derived.Test.YticgbohkgjheaaaVA
namespace Go.Proofs.Yticgbohkgjheaaa.wireConcat
open Go.ChangeShapes Go.WideShapes Go.ChangeAt Go.RowKit
open Go.ChangeMaps (open_string shut_string)
set_option linter.unusedVariables false

theorem own : ownKnob Try.prog.godebug = none := by kernel_rfl
theorem laidOut : laidOutB Try.prog = true := by kernel_rfl

set_option maxHeartbeats 1000000 in
set_option maxRecDepth 100000 in
theorem walk (a0 : ByteArray) (A1 : Option Addr) (c1 : Nat) (l1 : List Int) (w : World) (w0 : a0.size ≤ maxLen) (s0 : a0.size ≤ 140737488351232) (x1 : Sl w w.heap.size A1 1 l1.length (l1.map iv)) (m1 : l1.length ≤ c1) (k1 : c1 ≤ maxLen) (w1 : ∀ n ∈ l1, -9223372036854775808 ≤ n ∧ n ≤ 9223372036854775807) (s1 : l1.length ≤ 140737488351232) :
    Calls Try.prog 10 #[.string a0, .slice A1 l1.length c1] w fun e w' => e = .returned (.bool true) ∧ Below w.heap.size w w' := by
  by_cases hbig : 2000 < a0.size + l1.length
  · clear x1
    go_enter Try.func10, Try.ntmps10
    go_wp2_with (go_at_call 11; refine (sanity_any _).mono ?_; rintro e w' ⟨rfl, hb⟩; have HB := hideIt hb; clear hb)
    go_ret
    exact ⟨rfl, HB.out⟩
  · obtain ⟨i0, hi, hz0, hz1, hz2⟩ := info_parts Try.info5
    have hsz : a0.data.toList.length = a0.size := by rw [Array.length_toList]; rfl
    have qa : (encB a0.data.toList).length ≤ 3000 := by have := encB_le a0.data.toList (by omega); omega
    have qb : (encI l1).length ≤ 30000 := by have := encI_le l1 (by omega) w1; omega
    have X1 := hideIt x1
    have H1 := hideIt (own_bytes a0 w (by omega))
    have H2 := hideIt (fun W (h : Sl W W.heap.size A1 1 l1.length (l1.map iv)) => ints_v A1 c1 l1 W h w1 (by omega))
    have D1 := hideIt (decB_enc a0.data.toList (encI l1) (by omega))
    have D2 := hideIt (decI_enc l1 [] (by omega) w1)
    rw [List.append_nil] at D2
    clear x1 w1 hsz k1
    generalize encB a0.data.toList = la at *
    generalize encI l1 = lb at *
    go_enter Try.func10, Try.ntmps10
    go_wp2_with (first
      | (go_at_call 15; refine H1.out.mono ?_; rintro e wa ⟨Aa, ca, rfl, ha, hb⟩; have B1 := hideIt hb; have OA := hideIt ha; clear hb ha)
      | (go_at_call 17; refine (H2.out wa ((X1.out.below B1.out).wide B1.out.size)).mono ?_; rintro e wb ⟨Ab, cb, rfl, gb, ha, hb⟩; have B2 := hideIt (B1.out.trans (hb.mono B1.out.size)); have OA2 := hideIt (own_kept OA.out hb); have SB := hideIt ha; clear hb ha)
      | (at_builtin; refine wpList_append_any_ _ rfl (.tmp 20) (.tmp 22) 26 rfl w.heap.size 5 i0 (.int .u8 0) 1 1 Try.underlying26 hi hz0 hz1 hz2 rfl (by decide) _ la.length (la.map bv) rfl OA2.out Ab lb.length cb (lb.map bv) rfl SB.out (bv_one _) (by unfold maxLen; omega) (by omega) B2.out.size ?_; intro Ae ce wd q1 q2 ha hb; have hg := getBytes_v Ae _ ce (la ++ lb) wd (by rw [List.length_append, List.map_append]; exact ha) (by rw [List.length_append]; exact q1) q2 a0 (la.length : Int) 0 ⟨by rw [D1.out], by rw [D1.out], by rw [D1.out]; rfl⟩; rw [List.length_append] at hg; have G1 := hideIt hg; have B4 := hideIt (B2.out.trans hb); obtain ⟨Af, hcut, hsl⟩ := cut_from Try.underlying26 size1_8 Ae (n := la.length + lb.length) (cap := ce) (k := la.length) (by omega) q1; have hcut1 := hcut wd; have hS := hsl wd _ _ ha; rw [Nat.mul_one, Nat.add_sub_cancel_left, List.drop_left' (by rw [List.length_map])] at hS; have hg2 := getInts_v Af (ce - la.length) lb wd hS (by omega) (by omega) (by omega) l1 (lb.length : Int) 0 ⟨by rw [D2.out], by rw [D2.out], by rw [D2.out]; rfl⟩; have G2 := hideIt hg2; rw [Nat.add_sub_cancel_left] at hcut1; clear hg hg2 ha hb hcut hsl hS)
      | (go_at_call 23; refine G1.out.mono ?_; rintro e w' ⟨rfl, rfl⟩)
      | (go_at_call 25; refine G2.out.mono ?_; rintro e wf ⟨Ah, ch, rfl, ha, hb⟩; have B6 := hideIt (B4.out.trans (hb.mono B4.out.size)); have SH := hideIt ha; clear ha hb)
      | (go_at_call 11; refine (sanity_any _).mono ?_; rintro e wi ⟨rfl, hb⟩; have B9 := hideIt (B6.out.trans (hb.mono B6.out.size)); have SH9 := hideIt ((SH.out.below hb).wide hb.size); clear hb)
      | (go_at_call 27; refine (sameInts_any Ah A1 _ _ ch c1 l1 l1 _ SH9.out ((X1.out.below B9.out).wide B9.out.size) (by omega) (by omega)).mono ?_; rintro e w' ⟨rfl, n1, rfl⟩))
    go_ret
    exact ⟨rfl, below_drewN B9.out _⟩

set_option maxRecDepth 100000 in
theorem lifted (os : Os) (started : os.Started) (H : Type) (enc : TypeId × Value → H) :
    ReturnsInHanded {} Try.checked os 10 .any (Rows.wireConcatSpec.pre6 enc Try.prog Try.f10 Rows.wireConcatRow.domain false) (Rows.wireConcatSpec.post enc Try.prog Try.f10 false true false false) := by
  refine returnsInHanded_of_change_sized (C := Try.checked) own started (by kernel_rfl) Try.func10
    (ChangeSpec.witness6 (enc := enc) (C := Try.checked) false ⟨#[], #[.string ByteArray.empty, .slice none 0 0], []⟩ 8 (by kernel_rfl) (by kernel_rfl) (by kernel_rfl) (by kernel_rfl)) ?_
  intro W base args ds gs before hval0 hW hcnd hsz0 _
  have hsz : (DataW.weightsEach Try.prog (Try.f10.params.toList ++ Rows.wireConcatSpec.plain.varTypes Try.prog) (ds ++ gs)).all (· ≤ reachBytes) = true := hsz0
  have hval : ∀ (j : Nat) t v, Try.f10.params[j]? = some t → args[j]? = some v → Value.okWide Try.prog W .any base t v := hval0
  have hW' := hW
  obtain ⟨p, q, hA0, hV, rfl, hfz, hnd⟩ := hW
  have hA : DataW.TrodAll enc Try.prog W 0 (fun _ => true) true Try.f10.params.toList args.toList ds p := hA0
  rw [Try.params10] at hA hval hsz
  obtain ⟨v0, vs0, d0, ds0, p0, q0, hargs, rfl, rfl, h0, r0⟩ := trodAll_cons hA
  obtain ⟨v1, vs1, d1, ds1, p1, q1, rfl, rfl, rfl, h1, r1⟩ := trodAll_cons r0
  obtain ⟨rfl, rfl, rfl⟩ := trodAll_nil r1
  obtain rfl : args = #[v0, v1] := by cases args; simp_all
  obtain ⟨rfl, rfl⟩ := trodVars_none hV
  obtain ⟨a0, rfl, rfl, rfl, w0⟩ := open_string Try.underlying9 (hval 0 9 v0 rfl rfl) h0
  have s0 : a0.size ≤ 140737488351232 := by
    have h7 : a0.data.toList.length ≤ reachBytes := sized_string hsz (j := 0) (t := 9) rfl rfl
    have h8 : a0.data.toList.length = a0.size := by rw [Array.length_toList]; rfl
    simp only [reachBytes] at h7
    omega
  obtain ⟨a1, len1, cap1, rfl⟩ := okWide_slice Try.underlying22 (hval 1 22 v1 rfl rfl)
  have k1 := h1
  have lt1 : ∀ x ∈ p1, x.block < W.heap.size := by obtain ⟨m, hm⟩ := k1; exact DataW.trod_lt m _ _ _ hm
  obtain ⟨m1, n1, dd1, l1, rfl, x1, w1⟩ := open_nums h1
  have s1 : l1.length ≤ 140737488351232 := by
    rcases dd1 with ⟨_, e0⟩ | ⟨es, rs, e1, e0⟩
    · omega
    · subst e1
      have h7 := sized_slice hsz (j := 1) (t := 22) (e := 3) (elems := es) (spare := rs) rfl rfl Try.underlying22
      have h8 : Try.prog.bytesOf 3 = 8 := by kernel_rfl
      rw [h8] at h7
      simp only [reachBytes] at h7
      omega
  clear hA0 hval0 hsz0
  refine (walk a0 a1 cap1 l1 W w0 s0 x1 m1 n1 w1 s1).mono fun e W' ⟨he, bel⟩ => ?_
  subst he
  exact ⟨_, rfl, _, _, _, [], _, [], hW', trodAll_mk1 (shut_bool Try.underlying4 _), (trodAll_cons_mk (shut_string Try.underlying9 w0) (trodAll_cons_mk (Below.trod laidOut (by kernel_rfl) (of_decide_eq_true (by kernel_rfl)) k1 bel lt1) trodAll_mk0)), rfl, bel.frame _, fun h => by cases h⟩

theorem over : Rows.wireConcatRow.holds Try.pinned (OpenSpec.ofChange Rows.wireConcatSpec) :=
  OpenClaim.holds_of_wide 10 Try.f10 rfl rfl rfl rfl rfl rfl rfl ⟨rfl, rfl, rfl, rfl, rfl⟩ rfl rfl rfl rfl rfl (by kernel_rfl) Try.func10 (by kernel_rfl)
    (of_decide_eq_true (by kernel_rfl)) (by unfold Func.isWrapper; first | (rw [if_pos (by decide +kernel)]; kernel_rfl) | (rw [if_neg (by decide +kernel)]; exact ⟨rfl, rfl⟩))
    (fun os started H enc _ => lifted os started H enc)

theorem proved : Rows.WireConcatSaid := over

end Go.Proofs.Yticgbohkgjheaaa.wireConcat
