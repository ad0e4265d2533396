/-
  For every byte sequence, decoding an integer, a string, a list of integers and a list of digests at its beginning returns what the reference returns: the law WireDecodeMatchesSpec returns true; no condition.
-/
import Derived.Test.YticgbohkgjheaaaVD
namespace Go.Proofs.Yticgbohkgjheaaa.wireDecodeMatchesSpec
open Go.ChangeShapes Go.WideShapes Go.ChangeAt Go.RowKit
open Go.ChangeMaps (open_string shut_string)
set_option linter.unusedVariables false

theorem own : ownKnob Try.prog.godebug = none := by kernel_rfl
theorem laidOut : laidOutB Try.prog = true := by kernel_rfl

set_option maxHeartbeats 1000000 in
set_option maxRecDepth 100000 in
theorem walk (A0 : Option Addr) (c0 : Nat) (l0 : List UInt8) (w : World) (x0 : Sl w w.heap.size A0 1 l0.length (l0.map bv)) (m0 : l0.length ≤ c0) (k0 : c0 ≤ maxLen) (s0 : l0.length ≤ 140737488351232) :
    Calls Try.prog 4 #[.slice A0 l0.length c0] w fun e w' => e = .returned (.bool true) ∧ Below w.heap.size w w' := by
  by_cases hbig : 2000 < l0.length
  · clear x0
    go_enter Try.func4, Try.ntmps4
    go_wp2_with (go_at_call 11; refine (sanity_any _).mono ?_; rintro e w' ⟨rfl, hb⟩; have HB := hideIt hb; clear hb)
    go_ret
    exact ⟨rfl, HB.out⟩
  · obtain ⟨n1, u1, e1, d1⟩ : ∃ n u e, dec l0 = (n, u, e) := ⟨_, _, _, rfl⟩
    obtain ⟨s2, u2, e2, d2⟩ : ∃ s u e, decB l0 = (s, u, e) := ⟨_, _, _, rfl⟩
    obtain ⟨l3, u3, e3, d3⟩ : ∃ n u e, decI l0 = (n, u, e) := ⟨_, _, _, rfl⟩
    obtain ⟨l4, u4, e4, d4⟩ : ∃ n u e, decD l0 = (n, u, e) := ⟨_, _, _, rfl⟩
    have r3 := decI_facts l0
    have r4 := decD_facts l0
    rw [d3] at r3
    rw [d4] at r4
    simp only at r3 r4
    have q3 := r3.1
    have q4 := r4.1
    have R4 := hideIt r4.2
    have G1 := hideIt (fun W (h : Sl W W.heap.size A0 1 l0.length (l0.map bv)) => getInt_c A0 _ c0 l0 W h m0 k0 n1 u1 e1 d1)
    have P1 := hideIt (fun W (h : Sl W W.heap.size A0 1 l0.length (l0.map bv)) => refGetInt_c A0 c0 l0 W h m0 k0 (by omega) n1 u1 e1 d1)
    have G2 : Hid (∀ W, Sl W W.heap.size A0 1 l0.length (l0.map bv) → Calls Try.prog 23 #[.slice A0 l0.length c0] W fun x w' => x = .returned (.tuple #[.string ⟨s2.toArray⟩, .int .i64 (u2 : Int), .int .i64 (e2 : Int)]) ∧ W = w') := by
      intro W h
      have := getBytes_any A0 _ c0 l0 W h m0 k0
      rwa [d2] at this
    have P2 := hideIt (fun W (h : Sl W W.heap.size A0 1 l0.length (l0.map bv)) => refGetBytes_v A0 c0 l0 W h m0 k0 (by omega) s2 u2 e2 d2)
    have G3 : Hid (∀ W, Sl W W.heap.size A0 1 l0.length (l0.map bv) → Calls Try.prog 25 #[.slice A0 l0.length c0] W fun x w' => ∃ A' c', x = .returned (.tuple #[.slice A' l3.length c', .int .i64 (u3 : Int), .int .i64 (e3 : Int)]) ∧ Sl w' w'.heap.size A' 1 l3.length (l3.map iv) ∧ Below W.heap.size W w') := fun W h =>
      getInts_v A0 c0 l0 W h m0 k0 (by omega) l3 u3 e3 ⟨by rw [d3], by rw [d3], by rw [d3]⟩
    have P3 := hideIt (fun W (h : Sl W W.heap.size A0 1 l0.length (l0.map bv)) => refGetInts_v A0 c0 l0 W h m0 k0 (by omega) l3 u3 e3 d3)
    have G4 : Hid (∀ W, Sl W W.heap.size A0 1 l0.length (l0.map bv) → Calls Try.prog 28 #[.slice A0 l0.length c0] W fun x w' => ∃ A' c', x = .returned (.tuple #[.slice A' l4.length c', .int .i64 (u4 : Int), .int .i64 (e4 : Int)]) ∧ Sl w' w'.heap.size A' 16 l4.length (l4.flatten.map bv) ∧ Below W.heap.size W w') := fun W h =>
      getDigs_v A0 c0 l0 W h m0 k0 (by omega) l4 u4 e4 ⟨by rw [d4], by rw [d4], by rw [d4]⟩
    have P4 := hideIt (fun W (h : Sl W W.heap.size A0 1 l0.length (l0.map bv)) => refGetDigs_v A0 c0 l0 W h m0 k0 (by omega) l4 u4 e4 d4)
    have X0 := hideIt x0
    clear d1 d2 d3 d4 r3 r4 x0 m0 k0
    generalize (⟨s2.toArray⟩ : ByteArray) = st at *
    go_enter Try.func4, Try.ntmps4
    go_wp2_with fail
    refine (G1.out w X0.out).mono ?_
    rintro x w' ⟨rfl, rfl⟩
    go_wp2_with fail
    refine (P1.out w X0.out).mono ?_
    rintro x wa ⟨rfl, hb⟩
    have BA := hideIt hb
    clear hb
    go_wp2_with fail
    refine (G2.out wa (X0.out.next BA.out)).mono ?_
    rintro x w' ⟨rfl, rfl⟩
    go_wp2_with fail
    refine (P2.out wa (X0.out.next BA.out)).mono ?_
    rintro x wb ⟨rfl, hb⟩
    have BB := hideIt (BA.out.trans (hb.mono BA.out.size))
    clear hb BA
    go_wp2_with fail
    refine (G3.out wb (X0.out.next BB.out)).mono ?_
    rintro x wc ⟨A3, c3, rfl, ha, hb⟩
    have BC := hideIt (BB.out.trans (hb.mono BB.out.size))
    have S3 := hideIt ha
    clear ha hb BB
    go_wp2_with fail
    refine (P3.out wc (X0.out.next BC.out)).mono ?_
    rintro x wd ⟨A5, c5, rfl, ha, hb⟩
    have BD := hideIt (BC.out.trans (hb.mono BC.out.size))
    have S3b := hideIt (S3.out.next hb)
    have S5 := hideIt ha
    clear ha hb BC S3
    go_wp2_with fail
    refine (sameI_v A3 A5 c3 c5 l3 wd S3b.out S5.out (by omega)).mono ?_
    rintro x w' ⟨rfl, k1, rfl⟩
    have BE := hideIt (below_drewN BD.out k1)
    clear S3b S5 BD
    go_wp2_with fail
    generalize wd.drewN k1 = we at *
    refine (G4.out we (X0.out.next BE.out)).mono ?_
    rintro x wf ⟨A6, c6, rfl, ha, hb⟩
    have BF := hideIt (BE.out.trans (hb.mono BE.out.size))
    have S6 := hideIt ha
    clear ha hb BE
    go_wp2_with fail
    refine (P4.out wf (X0.out.next BF.out)).mono ?_
    rintro x wg ⟨A7, c7, rfl, ha, hb⟩
    have BG := hideIt (BF.out.trans (hb.mono BF.out.size))
    have S6b := hideIt (S6.out.next hb)
    have S7 := hideIt ha
    clear ha hb BF S6
    go_wp2_with fail
    refine (sanity_any wg).mono ?_
    rintro x wh ⟨rfl, hb⟩
    have BH := hideIt (BG.out.trans (hb.mono BG.out.size))
    have S6c := hideIt (S6b.out.next hb)
    have S7b := hideIt (S7.out.next hb)
    clear hb BG S6b S7
    go_wp2_with fail
    refine (sameD_v A6 A7 c6 c7 l4 wh S6c.out S7b.out R4.out (by omega)).mono ?_
    rintro x w' ⟨rfl, k2, rfl⟩
    have BI := hideIt (below_drewN BH.out k2)
    go_wp2
    go_ret
    exact ⟨rfl, BI.out⟩

set_option maxRecDepth 100000 in
theorem lifted (os : Os) (started : os.Started) (H : Type) (enc : TypeId × Value → H) :
    ReturnsInHanded {} Try.checked os 4 .any (Rows.wireDecodeMatchesSpecSpec.pre6 enc Try.prog Try.f4 Rows.wireDecodeMatchesSpecRow.domain false) (Rows.wireDecodeMatchesSpecSpec.post enc Try.prog Try.f4 false true false false) := by
  refine returnsInHanded_of_change_sized (C := Try.checked) own started (by kernel_rfl) Try.func4
    (ChangeSpec.witness6 (enc := enc) (C := Try.checked) false ⟨#[], #[.slice none 0 0], []⟩ 8 (by kernel_rfl) (by kernel_rfl) (by kernel_rfl) (by kernel_rfl)) ?_
  intro W base args ds gs before hval0 hW hcnd hsz0 _
  have hsz : (DataW.weightsEach Try.prog (Try.f4.params.toList ++ Rows.wireDecodeMatchesSpecSpec.plain.varTypes Try.prog) (ds ++ gs)).all (· ≤ reachBytes) = true := hsz0
  have hval : ∀ (j : Nat) t v, Try.f4.params[j]? = some t → args[j]? = some v → Value.okWide Try.prog W .any base t v := hval0
  have hW' := hW
  obtain ⟨p, q, hA0, hV, rfl, hfz, hnd⟩ := hW
  have hA : DataW.TrodAll enc Try.prog W 0 (fun _ => true) true Try.f4.params.toList args.toList ds p := hA0
  rw [Try.params4] at hA hval hsz
  obtain ⟨v0, vs0, d0, ds0, p0, q0, hargs, rfl, rfl, h0, r0⟩ := trodAll_cons hA
  obtain ⟨rfl, rfl, rfl⟩ := trodAll_nil r0
  obtain rfl : args = #[v0] := by cases args; simp_all
  obtain ⟨rfl, rfl⟩ := trodVars_none hV
  obtain ⟨a0, len0, cap0, rfl⟩ := okWide_slice Try.underlying26 (hval 0 26 v0 rfl rfl)
  have k0 := h0
  have lt0 : ∀ x ∈ p0, x.block < W.heap.size := by obtain ⟨m, hm⟩ := k0; exact DataW.trod_lt m _ _ _ hm
  obtain ⟨m0, n0, dd0, l0, rfl, x0⟩ := open_bytes h0
  have s0 : l0.length ≤ 140737488351232 := by
    rcases dd0 with ⟨_, e0⟩ | ⟨es, rs, e1, e0⟩
    · omega
    · subst e1
      have h7 := sized_slice hsz (j := 0) (t := 26) (e := 5) (elems := es) (spare := rs) rfl rfl Try.underlying26
      have h8 : Try.prog.bytesOf 5 = 1 := by kernel_rfl
      rw [h8] at h7
      simp only [reachBytes] at h7
      omega
  clear hA0 hval0 hsz0
  refine (walk a0 cap0 l0 W x0 m0 n0 s0).mono fun e W' ⟨he, bel⟩ => ?_
  subst he
  exact ⟨_, rfl, _, _, _, [], _, [], hW', trodAll_mk1 (shut_bool Try.underlying4 _), (trodAll_cons_mk (Below.trod laidOut (by kernel_rfl) (of_decide_eq_true (by kernel_rfl)) k0 bel lt0) trodAll_mk0), rfl, bel.frame _, fun h => by cases h⟩

theorem over : Rows.wireDecodeMatchesSpecRow.holds Try.pinned (OpenSpec.ofChange Rows.wireDecodeMatchesSpecSpec) :=
  OpenClaim.holds_of_wide 4 Try.f4 rfl rfl rfl rfl rfl rfl rfl ⟨rfl, rfl, rfl, rfl, rfl⟩ rfl rfl rfl rfl rfl (by kernel_rfl) Try.func4 (by kernel_rfl)
    (of_decide_eq_true (by kernel_rfl)) (by unfold Func.isWrapper; first | (rw [if_pos (by decide +kernel)]; kernel_rfl) | (rw [if_neg (by decide +kernel)]; exact ⟨rfl, rfl⟩))
    (fun os started H enc _ => lifted os started H enc)

theorem proved : Rows.WireDecodeMatchesSpecSaid := over

end Go.Proofs.Yticgbohkgjheaaa.wireDecodeMatchesSpec
