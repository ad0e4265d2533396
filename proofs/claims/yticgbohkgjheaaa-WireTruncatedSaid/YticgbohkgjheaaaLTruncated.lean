/-
  For every integer, string, list of integers and list of digests, every proper prefix of the encoding yields ErrTruncated: the law WireTruncated returns true; no condition.
-/
import Derived.Test.YticgbohkgjheaaaVT
namespace Go.Proofs.Yticgbohkgjheaaa.wireTruncated
open Go.ChangeShapes Go.WideShapes Go.ChangeAt Go.RowKit
open Go.ChangeMaps (open_string shut_string)
set_option linter.unusedVariables false

theorem own : ownKnob Try.prog.godebug = none := by kernel_rfl
theorem laidOut : laidOutB Try.prog = true := by kernel_rfl

set_option maxHeartbeats 1000000 in
set_option maxRecDepth 100000 in
theorem walk (a0 : Int) (a1 : ByteArray) (A2 : Option Addr) (c2 : Nat) (l2 : List Int) (A3 : Option Addr) (c3 : Nat) (l3 : List (List UInt8)) (w : World) (w0 : -9223372036854775808 ≤ a0 ∧ a0 ≤ 9223372036854775807) (w1 : a1.size ≤ maxLen) (s1 : a1.size ≤ 140737488351232) (x2 : Sl w w.heap.size A2 1 l2.length (l2.map iv)) (m2 : l2.length ≤ c2) (k2 : c2 ≤ maxLen) (w2 : ∀ n ∈ l2, -9223372036854775808 ≤ n ∧ n ≤ 9223372036854775807) (s2 : l2.length ≤ 140737488351232) (x3 : Sl w w.heap.size A3 16 l3.length (l3.flatten.map bv)) (m3 : l3.length ≤ c3) (k3 : c3 ≤ maxLen) (w3 : ∀ d ∈ l3, d.length = 16) (s3 : l3.length ≤ 140737488351232) :
    Calls Try.prog 9 #[.int .i64 a0, .string a1, .slice A2 l2.length c2, .slice A3 l3.length c3] w fun e w' => e = .returned (.bool true) ∧ Below w.heap.size w w' := by
  by_cases hbig : 400 < a1.size + 9 * l2.length + 16 * l3.length
  · clear x2 x3
    go_enter Try.func9, Try.ntmps9
    go_wp2_with (go_at_call 11; refine (sanity_any _).mono ?_; rintro e w' ⟨rfl, hb⟩; have HB := hideIt hb; clear hb)
    go_ret
    exact ⟨rfl, HB.out⟩
  · have hsz : a1.data.toList.length = a1.size := by rw [Array.length_toList]; rfl
    have qa : (enc a0).length ≤ 9 := enc_le a0 w0.1 w0.2
    have qb : (encB a1.data.toList).length ≤ 500 := by have := encB_le a1.data.toList (by omega); omega
    have qc : (encI l2).length ≤ 500 := by have := encI_le l2 (by omega) w2; omega
    have qd : (encD l3).length ≤ 500 := by have := encD_le l3 (by omega) w3; omega
    have X2 := hideIt x2
    have X3 := hideIt x3
    have H0 := hideIt (own_int a0 w w0.1 w0.2)
    have H1 := hideIt (fun W => own_bytes a1 W (by omega))
    have H2 := hideIt (fun W (h : Sl W W.heap.size A2 1 l2.length (l2.map iv)) => own_ints A2 c2 l2 W h w2 (by omega))
    have H3 := hideIt (fun W (h : Sl W W.heap.size A3 16 l3.length (l3.flatten.map bv)) => own_digs A3 c3 l3 W h w3 (by omega))
    have C0 := hideIt (cuts_int (enc a0) (dec_cut w0.1 w0.2))
    have C1 := hideIt (cuts_bytes (encB a1.data.toList) (fun i hi => decB_cut a1.data.toList i (by omega) hi))
    have C2 := hideIt (cuts_ints (encI l2) (by omega) (fun i hi => decI_cut l2 i (by omega) w2 hi))
    have C3 := hideIt (cuts_digs (encD l3) (by omega) (fun i hi => decD_cut l3 i (by omega) w3 hi))
    clear x2 x3 w2 w3 hsz k2 k3
    generalize enc a0 = la at *
    generalize encB a1.data.toList = lb at *
    generalize encI l2 = lc at *
    generalize encD l3 = ld at *
    go_enter Try.func9, Try.ntmps9
    go_wp2_with (first
      | (go_at_call 13; refine H0.out.mono ?_; rintro e wa ⟨Aa, ca, rfl, ha, hb⟩; have B1 := hideIt hb; have GA := hideIt (own_cap ha); have SA := hideIt (Sl.of_own ha); clear hb ha)
      | (go_at_call 15; refine (H1.out wa).mono ?_; rintro e wb ⟨Ab, cb, rfl, ha, hb⟩; have B2 := hideIt (B1.out.trans (hb.mono B1.out.size)); have GB := hideIt (own_cap ha); have SB := hideIt (Sl.of_own ha); have SA2 := hideIt ((SA.out.below hb).wide hb.size); clear hb ha)
      | (go_at_call 17; refine (H2.out wb ((X2.out.below B2.out).wide B2.out.size)).mono ?_; rintro e wc ⟨Ac, cc, rfl, ha, hb⟩; have B3 := hideIt (B2.out.trans (hb.mono B2.out.size)); have GC := hideIt (own_cap ha); have SC := hideIt (Sl.of_own ha); have SA3 := hideIt ((SA2.out.below hb).wide hb.size); have SB3 := hideIt ((SB.out.below hb).wide hb.size); clear hb ha)
      | (go_at_call 19; refine (H3.out wc ((X3.out.below B3.out).wide B3.out.size)).mono ?_; rintro e wd ⟨Ad, cd, rfl, ha, hb⟩; have B4 := hideIt (B3.out.trans (hb.mono B3.out.size)); have GD := hideIt (own_cap ha); have SD := hideIt (Sl.of_own ha); have SA4 := hideIt ((SA3.out.below hb).wide hb.size); have SB4 := hideIt ((SB3.out.below hb).wide hb.size); have SC4 := hideIt ((SC.out.below hb).wide hb.size); clear hb ha))
    have hblk := Blk.new wd 26 [.slice Aa la.length ca, .slice Ab lb.length cb, .slice Ac lc.length cc, .slice Ad ld.length cd]
    have hbz : Below wd.heap.size wd (wd.alloc (.cells #[.slice Aa la.length ca, .slice Ab lb.length cb, .slice Ac lc.length cc, .slice Ad ld.length cd] 26)) := (Below.refl _ _).alloc (Nat.le_refl _) _
    have hgz : wd.heap.size < (wd.alloc (.cells #[.slice Aa la.length ca, .slice Ab lb.length cb, .slice Ac lc.length cc, .slice Ad ld.length cd] 26)).heap.size := by simp
    generalize (wd.alloc (.cells #[.slice Aa la.length ca, .slice Ab lb.length cb, .slice Ac lc.length cc, .slice Ad ld.length cd] 26)) = wz at *
    have BLK : Hid (Blk wz wd.heap.size 26 [.slice Aa la.length ca, .slice Ab lb.length cb, .slice Ac lc.length cc, .slice Ad ld.length cd]) := hblk
    have BZ := hideIt (B4.out.trans (hbz.mono B4.out.size))
    have ZA := hideIt ((SA4.out.below hbz).wide hbz.size)
    have ZB := hideIt ((SB4.out.below hbz).wide hbz.size)
    have ZC := hideIt ((SC4.out.below hbz).wide hbz.size)
    have ZD := hideIt ((SD.out.below hbz).wide hbz.size)
    clear hblk hbz B1 B2 B3 B4 SA SA2 SA3 SA4 SB SB3 SB4 SC SC4 SD H0 H1 H2 H3 X2 X3
    go_loopg [35] 4 (fun g s35 wr => ∃ k : Nat, g + k = 4 ∧ s35 = .int .i64 k ∧ Hid (Below wz.heap.size wz wr))
    case atStart => exact ⟨0, rfl, rfl, Below.refl _ _⟩
    case round =>
      obtain ⟨k, hg, rfl, HB⟩ := hrel
      obtain ⟨wo, rfl⟩ : ∃ wo : World, wo = wr := ⟨_, rfl⟩
      rcases (show k = 0 ∨ k = 1 ∨ k = 2 ∨ k = 3 ∨ k = 4 by omega) with rfl | rfl | rfl | rfl | rfl
      · obtain rfl : gk = 4 := by omega
        have hc0 : wo.cell? ⟨wd.heap.size, 0, none⟩ = some (.slice Aa la.length ca) := by
          rw [(HB.out.cell (p := ⟨wd.heap.size, 0, none⟩) hgz), BLK.out.cell]; rfl
        have hg1 := GA.out.1
        go_wp2
        simp only [show min (la.length : Int) 500 = la.length from by omega]
        clear hc0
        go_loopg [43] la.length (fun g s43 wr => ∃ i : Nat, g + i = la.length ∧ s43 = .int .i64 i ∧ Hid (Below wz.heap.size wz wr))
        case atStart => exact ⟨0, by omega, rfl, HB⟩
        case round =>
          obtain ⟨i, hi, rfl, HB2⟩ := hrel
          by_cases hlt : i < la.length
          · obtain ⟨Ax, hcut, hsl⟩ := cut_to Try.underlying26 size1_8 Aa (h := i) (by omega) hg1
            have hcut1 := hcut wr
            have hS := hsl wr _ _ ((ZA.out.below HB2.out).wide HB2.out.size)
            rw [Nat.mul_one, ← List.map_take] at hS
            have HS := hideIt hS
            clear hcut hsl hS
            go_wp2_with (go_at_call 21; refine (C0.out Ax ca i wr hlt hg1 GA.out.2 HS.out).mono ?_; rintro e w2 ⟨⟨v, u, rfl⟩, hb⟩; have HB3 := hideIt (HB2.out.trans (hb.mono HB2.out.size)); clear hb)
            go_roundg (gk - 1)
            case measure => omega
            case rel => exact ⟨i + 1, by omega, by go_num, HB3⟩
          · go_wp2
            go_roundg 3
            case measure => omega
            case rel => exact ⟨1, rfl, rfl, HB2⟩
      · obtain rfl : gk = 3 := by omega
        have hc0 : wo.cell? ⟨wd.heap.size, 1, none⟩ = some (.slice Ab lb.length cb) := by
          rw [(HB.out.cell (p := ⟨wd.heap.size, 1, none⟩) hgz), BLK.out.cell]; rfl
        have hg1 := GB.out.1
        go_wp2
        simp only [show min (lb.length : Int) 500 = lb.length from by omega]
        clear hc0
        go_loopg [43] lb.length (fun g s43 wr => ∃ i : Nat, g + i = lb.length ∧ s43 = .int .i64 i ∧ Hid (Below wz.heap.size wz wr))
        case atStart => exact ⟨0, by omega, rfl, HB⟩
        case round =>
          obtain ⟨i, hi, rfl, HB2⟩ := hrel
          by_cases hlt : i < lb.length
          · obtain ⟨Ax, hcut, hsl⟩ := cut_to Try.underlying26 size1_8 Ab (h := i) (by omega) hg1
            have hcut1 := hcut wr
            have hS := hsl wr _ _ ((ZB.out.below HB2.out).wide HB2.out.size)
            rw [Nat.mul_one, ← List.map_take] at hS
            have HS := hideIt hS
            clear hcut hsl hS
            go_wp2_with (go_at_call 23; refine (C1.out Ax cb i wr hlt hg1 GB.out.2 HS.out).mono ?_; rintro e w2 ⟨⟨v, u, rfl⟩, hb⟩; have HB3 := hideIt (HB2.out.trans (hb.mono HB2.out.size)); clear hb)
            go_roundg (gk - 1)
            case measure => omega
            case rel => exact ⟨i + 1, by omega, by go_num, HB3⟩
          · go_wp2
            go_roundg 2
            case measure => omega
            case rel => exact ⟨2, rfl, rfl, HB2⟩
      · obtain rfl : gk = 2 := by omega
        have hc0 : wo.cell? ⟨wd.heap.size, 2, none⟩ = some (.slice Ac lc.length cc) := by
          rw [(HB.out.cell (p := ⟨wd.heap.size, 2, none⟩) hgz), BLK.out.cell]; rfl
        have hg1 := GC.out.1
        go_wp2
        simp only [show min (lc.length : Int) 500 = lc.length from by omega]
        clear hc0
        go_loopg [43] lc.length (fun g s43 wr => ∃ i : Nat, g + i = lc.length ∧ s43 = .int .i64 i ∧ Hid (Below wz.heap.size wz wr))
        case atStart => exact ⟨0, by omega, rfl, HB⟩
        case round =>
          obtain ⟨i, hi, rfl, HB2⟩ := hrel
          by_cases hlt : i < lc.length
          · obtain ⟨Ax, hcut, hsl⟩ := cut_to Try.underlying26 size1_8 Ac (h := i) (by omega) hg1
            have hcut1 := hcut wr
            have hS := hsl wr _ _ ((ZC.out.below HB2.out).wide HB2.out.size)
            rw [Nat.mul_one, ← List.map_take] at hS
            have HS := hideIt hS
            clear hcut hsl hS
            go_wp2_with (go_at_call 25; refine (C2.out Ax cc i wr hlt hg1 GC.out.2 HS.out).mono ?_; rintro e w2 ⟨⟨v, u, rfl⟩, hb⟩; have HB3 := hideIt (HB2.out.trans (hb.mono HB2.out.size)); clear hb)
            go_roundg (gk - 1)
            case measure => omega
            case rel => exact ⟨i + 1, by omega, by go_num, HB3⟩
          · go_wp2
            go_roundg 1
            case measure => omega
            case rel => exact ⟨3, rfl, rfl, HB2⟩
      · obtain rfl : gk = 1 := by omega
        have hc0 : wo.cell? ⟨wd.heap.size, 3, none⟩ = some (.slice Ad ld.length cd) := by
          rw [(HB.out.cell (p := ⟨wd.heap.size, 3, none⟩) hgz), BLK.out.cell]; rfl
        have hg1 := GD.out.1
        go_wp2
        simp only [show min (ld.length : Int) 500 = ld.length from by omega]
        clear hc0
        go_loopg [43] ld.length (fun g s43 wr => ∃ i : Nat, g + i = ld.length ∧ s43 = .int .i64 i ∧ Hid (Below wz.heap.size wz wr))
        case atStart => exact ⟨0, by omega, rfl, HB⟩
        case round =>
          obtain ⟨i, hi, rfl, HB2⟩ := hrel
          by_cases hlt : i < ld.length
          · obtain ⟨Ax, hcut, hsl⟩ := cut_to Try.underlying26 size1_8 Ad (h := i) (by omega) hg1
            have hcut1 := hcut wr
            have hS := hsl wr _ _ ((ZD.out.below HB2.out).wide HB2.out.size)
            rw [Nat.mul_one, ← List.map_take] at hS
            have HS := hideIt hS
            clear hcut hsl hS
            go_wp2_with (go_at_call 28; refine (C3.out Ax cd i wr hlt hg1 GD.out.2 HS.out).mono ?_; rintro e w2 ⟨⟨v, u, rfl⟩, hb⟩; have HB3 := hideIt (HB2.out.trans (hb.mono HB2.out.size)); clear hb)
            go_roundg (gk - 1)
            case measure => omega
            case rel => exact ⟨i + 1, by omega, by go_num, HB3⟩
          · go_wp2
            go_roundg 0
            case measure => omega
            case rel => exact ⟨4, rfl, rfl, HB2⟩
      · go_wp2_with (go_at_call 11; refine (sanity_any _).mono ?_; rintro e wi ⟨rfl, hb⟩; have B9 := hideIt ((BZ.out.trans (HB.out.mono BZ.out.size)).trans (hb.mono (Nat.le_trans BZ.out.size HB.out.size))); clear hb)
        go_ret
        exact ⟨rfl, B9.out⟩

set_option maxRecDepth 100000 in
theorem lifted (os : Os) (started : os.Started) (H : Type) (enc : TypeId × Value → H) :
    ReturnsInHanded {} Try.checked os 9 .any (Rows.wireTruncatedSpec.pre6 enc Try.prog Try.f9 Rows.wireTruncatedRow.domain false) (Rows.wireTruncatedSpec.post enc Try.prog Try.f9 false true false false) := by
  refine returnsInHanded_of_change_sized (C := Try.checked) own started (by kernel_rfl) Try.func9
    (ChangeSpec.witness6 (enc := enc) (C := Try.checked) false ⟨#[], #[.int .i64 0, .string ByteArray.empty, .slice none 0 0, .slice none 0 0], []⟩ 8 (by kernel_rfl) (by kernel_rfl) (by kernel_rfl) (by kernel_rfl)) ?_
  intro W base args ds gs before hval0 hW hcnd hsz0 _
  have hsz : (DataW.weightsEach Try.prog (Try.f9.params.toList ++ Rows.wireTruncatedSpec.plain.varTypes Try.prog) (ds ++ gs)).all (· ≤ reachBytes) = true := hsz0
  have hval : ∀ (j : Nat) t v, Try.f9.params[j]? = some t → args[j]? = some v → Value.okWide Try.prog W .any base t v := hval0
  have hW' := hW
  obtain ⟨p, q, hA0, hV, rfl, hfz, hnd⟩ := hW
  have hA : DataW.TrodAll enc Try.prog W 0 (fun _ => true) true Try.f9.params.toList args.toList ds p := hA0
  rw [Try.params9] at hA hval hsz
  obtain ⟨v0, vs0, d0, ds0, p0, q0, hargs, rfl, rfl, h0, r0⟩ := trodAll_cons hA
  obtain ⟨v1, vs1, d1, ds1, p1, q1, rfl, rfl, rfl, h1, r1⟩ := trodAll_cons r0
  obtain ⟨v2, vs2, d2, ds2, p2, q2, rfl, rfl, rfl, h2, r2⟩ := trodAll_cons r1
  obtain ⟨v3, vs3, d3, ds3, p3, q3, rfl, rfl, rfl, h3, r3⟩ := trodAll_cons r2
  obtain ⟨rfl, rfl, rfl⟩ := trodAll_nil r3
  obtain rfl : args = #[v0, v1, v2, v3] := by cases args; simp_all
  obtain ⟨rfl, rfl⟩ := trodVars_none hV
  obtain ⟨a0, rfl, rfl, rfl, w0⟩ := open_int Try.underlying3 (hval 0 3 v0 rfl rfl) h0
  obtain ⟨a1, rfl, rfl, rfl, w1⟩ := open_string Try.underlying9 (hval 1 9 v1 rfl rfl) h1
  have s1 : a1.size ≤ 140737488351232 := by
    have h7 : a1.data.toList.length ≤ reachBytes := sized_string hsz (j := 1) (t := 9) rfl rfl
    have h8 : a1.data.toList.length = a1.size := by rw [Array.length_toList]; rfl
    simp only [reachBytes] at h7
    omega
  obtain ⟨a2, len2, cap2, rfl⟩ := okWide_slice Try.underlying22 (hval 2 22 v2 rfl rfl)
  have k2 := h2
  have lt2 : ∀ x ∈ p2, x.block < W.heap.size := by obtain ⟨m, hm⟩ := k2; exact DataW.trod_lt m _ _ _ hm
  obtain ⟨m2, n2, dd2, l2, rfl, x2, w2⟩ := open_nums h2
  have s2 : l2.length ≤ 140737488351232 := by
    rcases dd2 with ⟨_, e0⟩ | ⟨es, rs, e1, e0⟩
    · omega
    · subst e1
      have h7 := sized_slice hsz (j := 2) (t := 22) (e := 3) (elems := es) (spare := rs) rfl rfl Try.underlying22
      have h8 : Try.prog.bytesOf 3 = 8 := by kernel_rfl
      rw [h8] at h7
      simp only [reachBytes] at h7
      omega
  obtain ⟨a3, len3, cap3, rfl⟩ := okWide_slice Try.underlying23 (hval 3 23 v3 rfl rfl)
  have k3 := h3
  have lt3 : ∀ x ∈ p3, x.block < W.heap.size := by obtain ⟨m, hm⟩ := k3; exact DataW.trod_lt m _ _ _ hm
  obtain ⟨m3, n3, dd3, l3, rfl, x3, w3⟩ := open_digs h3
  have s3 : l3.length ≤ 140737488351232 := by
    rcases dd3 with ⟨_, e0⟩ | ⟨es, rs, e1, e0⟩
    · omega
    · subst e1
      have h7 := sized_slice hsz (j := 3) (t := 23) (e := 51) (elems := es) (spare := rs) rfl rfl Try.underlying23
      have h8 : Try.prog.bytesOf 51 = 16 := by kernel_rfl
      rw [h8] at h7
      simp only [reachBytes] at h7
      omega
  clear hA0 hval0 hsz0
  refine (walk a0 a1 a2 cap2 l2 a3 cap3 l3 W (wf_i64 w0) w1 s1 x2 m2 n2 w2 s2 x3 m3 n3 w3 s3).mono fun e W' ⟨he, bel⟩ => ?_
  subst he
  exact ⟨_, rfl, _, _, _, [], _, [], hW', trodAll_mk1 (shut_bool Try.underlying4 _), (trodAll_cons_mk (shut_int Try.underlying3 w0) (trodAll_cons_mk (shut_string Try.underlying9 w1) (trodAll_cons_mk (Below.trod laidOut (by kernel_rfl) (of_decide_eq_true (by kernel_rfl)) k2 bel lt2) (trodAll_cons_mk (Below.trod laidOut (by kernel_rfl) (of_decide_eq_true (by kernel_rfl)) k3 bel lt3) trodAll_mk0)))), rfl, bel.frame _, fun h => by cases h⟩

theorem over : Rows.wireTruncatedRow.holds Try.pinned (OpenSpec.ofChange Rows.wireTruncatedSpec) :=
  OpenClaim.holds_of_wide 9 Try.f9 rfl rfl rfl rfl rfl rfl rfl ⟨rfl, rfl, rfl, rfl, rfl⟩ rfl rfl rfl rfl rfl (by kernel_rfl) Try.func9 (by kernel_rfl)
    (of_decide_eq_true (by kernel_rfl)) (by unfold Func.isWrapper; first | (rw [if_pos (by decide +kernel)]; kernel_rfl) | (rw [if_neg (by decide +kernel)]; exact ⟨rfl, rfl⟩))
    (fun os started H enc _ => lifted os started H enc)

theorem proved : Rows.WireTruncatedSaid := over

end Go.Proofs.Yticgbohkgjheaaa.wireTruncated
