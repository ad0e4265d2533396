/-
  For every byte sequence, whatever is decoded from its beginning, the consumed bytes are its encoding: the law WireCanonical returns true; no condition.
-/
import Derived.Test.YticgbohkgjheaaaVC
namespace Go.Proofs.Yticgbohkgjheaaa.wireCanonical
open Go.ChangeShapes Go.WideShapes Go.ChangeAt Go.RowKit
open Go.ChangeMaps (open_string shut_string)
set_option linter.unusedVariables false

theorem own : ownKnob Try.prog.godebug = none := by kernel_rfl
theorem laidOut : laidOutB Try.prog = true := by kernel_rfl

set_option maxHeartbeats 1000000 in
set_option maxRecDepth 100000 in
theorem walk (A0 : Option Addr) (c0 : Nat) (l0 : List UInt8) (w : World) (x0 : Sl w w.heap.size A0 1 l0.length (l0.map bv)) (m0 : l0.length ≤ c0) (k0 : c0 ≤ maxLen) (s0 : l0.length ≤ 140737488351232) :
    Calls Try.prog 7 #[.slice A0 l0.length c0] w fun e w' => e = .returned (.bool true) ∧ Below w.heap.size w w' := by
  have hbw : Below w.heap.size w (w.alloc (.cells #[.slice A0 l0.length c0] 26)) := (Below.refl _ _).alloc (Nat.le_refl _) _
  by_cases hbig : 2000 < l0.length
  · have HBW := hideIt hbw
    clear x0 hbw
    go_enter Try.func7, Try.ntmps7
    go_wp2_with (go_at_call 11; refine (sanity_any _).mono ?_; rintro e w' ⟨rfl, hb⟩; have HB := hideIt (HBW.out.trans (hb.mono HBW.out.size)); clear hb)
    go_ret
    exact ⟨rfl, HB.out⟩
  · have hmf : ∀ (fn : Fn) (first cap : Array Value) (w : World), (Instr.makeFunc fn first cap).run Try.prog w = .ok (.func fn first cap) w := fun _ _ _ _ => rfl
    obtain ⟨n1, u1, e1, d1⟩ : ∃ n u e, dec l0 = (n, u, e) := ⟨_, _, _, rfl⟩
    obtain ⟨s2, u2, e2, d2⟩ : ∃ s u e, decB l0 = (s, u, e) := ⟨_, _, _, rfl⟩
    obtain ⟨l3, u3, e3, d3⟩ : ∃ n u e, decI l0 = (n, u, e) := ⟨_, _, _, rfl⟩
    obtain ⟨l4, u4, e4, d4⟩ : ∃ n u e, decD l0 = (n, u, e) := ⟨_, _, _, rfl⟩
    have r1 := dec_range l0
    have r2 := decB_len l0
    have r3 := decI_facts l0
    have r4 := decD_facts l0
    have t1 := dec_canon l0
    have t1' := dec_ok l0
    have t2 := decB_canon l0
    have t3 := decI_canon l0
    have t4 := decD_canon l0
    rw [d1] at r1 t1 t1'
    rw [d2] at r2 t2
    rw [d3] at r3 t3
    rw [d4] at r4 t4
    simp only at r1 r2 r3 r4 t1 t1' t2 t3 t4
    have hle1 := enc_le n1 r1.1 r1.2
    have hle2 := encB_le s2 (by omega)
    have hle3 := encI_le l3 (by omega) r3.2
    have hle4 := encD_le l4 (by omega) r4.2
    have hsz2 : (⟨s2.toArray⟩ : ByteArray).size = s2.length := by show s2.toArray.size = _; simp
    have hda2 : (⟨s2.toArray⟩ : ByteArray).data.toList = s2 := rfl
    have q2 : (encB s2).length ≤ 1000000 := by omega
    have q3 : (encI l3).length ≤ 1000000 := by have := r3.1; omega
    have q4 : (encD l4).length ≤ 1000000 := by have := r4.1; omega
    have E1 : Hid (e1 = 0 → enc n1 = l0.take u1 ∧ u1 ≤ l0.length) := fun h => ⟨t1 h, (t1' h).2.2.1⟩
    have E2 : Hid (e2 = 0 → encB s2 = l0.take u2 ∧ u2 ≤ l0.length) := t2
    have E3 : Hid (e3 = 0 → encI l3 = l0.take u3 ∧ u3 ≤ l0.length) := t3
    have E4 : Hid (e4 = 0 → encD l4 = l0.take u4 ∧ u4 ≤ l0.length) := t4
    have R3 := hideIt r3
    have R4 := hideIt r4
    have G1 := hideIt (fun W (h : Sl W W.heap.size A0 1 l0.length (l0.map bv)) => getInt_c A0 _ c0 l0 W h m0 k0 n1 u1 e1 d1)
    have G2 : Hid (∀ W, Sl W W.heap.size A0 1 l0.length (l0.map bv) → Calls Try.prog 23 #[.slice A0 l0.length c0] W fun x w' => x = .returned (.tuple #[.string ⟨s2.toArray⟩, .int .i64 (u2 : Int), .int .i64 (e2 : Int)]) ∧ W = w') := by
      intro W h
      have := getBytes_any A0 _ c0 l0 W h m0 k0
      rwa [d2] at this
    have G3 : Hid (∀ W, Sl W W.heap.size A0 1 l0.length (l0.map bv) → Calls Try.prog 25 #[.slice A0 l0.length c0] W fun x w' => ∃ A' c', x = .returned (.tuple #[.slice A' l3.length c', .int .i64 (u3 : Int), .int .i64 (e3 : Int)]) ∧ Sl w' w'.heap.size A' 1 l3.length (l3.map iv) ∧ Below W.heap.size W w') := fun W h =>
      getInts_v A0 c0 l0 W h m0 k0 (by omega) l3 u3 e3 ⟨by rw [d3], by rw [d3], by rw [d3]⟩
    have G4 : Hid (∀ W, Sl W W.heap.size A0 1 l0.length (l0.map bv) → Calls Try.prog 28 #[.slice A0 l0.length c0] W fun x w' => ∃ A' c', x = .returned (.tuple #[.slice A' l4.length c', .int .i64 (u4 : Int), .int .i64 (e4 : Int)]) ∧ Sl w' w'.heap.size A' 16 l4.length (l4.flatten.map bv) ∧ Below W.heap.size W w') := fun W h =>
      getDigs_v A0 c0 l0 W h m0 k0 (by omega) l4 u4 e4 ⟨by rw [d4], by rw [d4], by rw [d4]⟩
    have P1 := hideIt (fun W => int_v n1 W r1.1 r1.2)
    have P2 : Hid (∀ W, Calls Try.prog 15 #[.string ⟨s2.toArray⟩] W fun e w' => ∃ A' c', e = .returned (.slice A' (encB s2).length c') ∧ (encB s2).length ≤ c' ∧ Sl w' w'.heap.size A' 1 (encB s2).length ((encB s2).map bv) ∧ Below W.heap.size W w') := by
      intro W
      have := bytes_v ⟨s2.toArray⟩ W (by omega)
      rwa [hda2] at this
    have hcl0 : (w.alloc (.cells #[.slice A0 l0.length c0] 26)).cell? ⟨w.heap.size, 0, none⟩ = some (.slice A0 l0.length c0) := by
      rw [World.cell?_alloc_at _ _ _ _ rfl]; rfl
    have hgz : w.heap.size < (w.alloc (.cells #[.slice A0 l0.length c0] 26)).heap.size := by simp
    have X0 := hideIt ((x0.below hbw).wide hbw.size)
    have CL := hideIt hcl0
    have BW := hideIt hbw
    have M0 := hideIt m0
    have K0 := hideIt k0
    have L0 : l0.length ≤ 2000 := by omega
    clear d1 d2 d3 d4 r1 r2 r3 r4 t1 t1' t2 t3 t4 hsz2 hda2 x0 hcl0 hbw m0 k0 hbig
    generalize enc n1 = b1 at *
    generalize encB s2 = b2 at *
    generalize hq3 : encI l3 = b3 at *
    generalize hq4 : encD l4 = b4 at *
    generalize (⟨s2.toArray⟩ : ByteArray) = st at *
    have Q3 := hideIt hq3
    have Q4 := hideIt hq4
    clear hq3 hq4
    go_enter Try.func7, Try.ntmps7
    go_wp2_with fail
    generalize (w.alloc (.cells #[.slice A0 l0.length c0] 26)) = wz at *
    have hcz := CL.out
    refine (G1.out wz X0.out).mono ?_
    rintro x w' ⟨rfl, rfl⟩
    go_wp2_with fail
    refine (G2.out wz X0.out).mono ?_
    rintro x w' ⟨rfl, rfl⟩
    go_wp2_with fail
    refine (G3.out wz X0.out).mono ?_
    rintro x wa ⟨A3, c3, rfl, ha, hb⟩
    have BA := hideIt hb
    have S3 := hideIt ha
    have hca := (BA.out.cell (p := ⟨w.heap.size, 0, none⟩) hgz).trans hcz
    have XA := hideIt ((X0.out.below hb).wide hb.size)
    clear ha hb hcz
    go_wp2_with fail
    refine (G4.out wa XA.out).mono ?_
    rintro x wb ⟨A4, c4, rfl, ha, hb⟩
    have BB := hideIt (BA.out.trans (hb.mono BA.out.size))
    have S3b := hideIt ((S3.out.below hb).wide hb.size)
    have S4 := hideIt ha
    clear ha hb hca S3 BA XA
    go_wp2_with fail
    refine (sanity_any wb).mono ?_
    rintro x wc ⟨rfl, hb⟩
    have BC := hideIt (BB.out.trans (hb.mono BB.out.size))
    have S3c := hideIt ((S3b.out.below hb).wide hb.size)
    have S4c := hideIt ((S4.out.below hb).wide hb.size)
    clear hb BB S3b S4
    go_wp2_with fail
    refine (P1.out wc).mono ?_
    rintro x wd ⟨Ai, ci, rfl, gi, ha, hb⟩
    have BD := hideIt (BC.out.trans (hb.mono BC.out.size))
    have S3d := hideIt ((S3c.out.below hb).wide hb.size)
    have S4d := hideIt ((S4c.out.below hb).wide hb.size)
    have SI := hideIt ha
    clear ha hb BC S3c S4c
    go_wp2_with fail
    refine (is_any w.heap.size A0 c0 l0 Ai ci b1 u1 e1 wd ((BD.out.cell (p := ⟨w.heap.size, 0, none⟩) hgz).trans CL.out) ((X0.out.below BD.out).wide BD.out.size) M0.out K0.out (by omega) SI.out (by omega) E1.out).mono ?_
    rintro x w' ⟨rfl, k1, rfl⟩
    have S3e := hideIt (S3d.out.drewN2 k1)
    have S4e := hideIt (S4d.out.drewN2 k1)
    have BE := hideIt (below_drewN BD.out k1)
    clear SI S3d S4d BD
    go_wp2_with fail
    generalize wd.drewN k1 = we at *
    refine (P2.out we).mono ?_
    rintro x wf ⟨Aj, cj, rfl, gj, ha, hb⟩
    have BF := hideIt (BE.out.trans (hb.mono BE.out.size))
    have S3f := hideIt (S3e.out.next hb)
    have S4f := hideIt (S4e.out.next hb)
    have SJ := hideIt ha
    clear ha hb BE S3e S4e
    go_wp2_with fail
    refine (is_any w.heap.size A0 c0 l0 Aj cj b2 u2 e2 wf ((BF.out.cell (p := ⟨w.heap.size, 0, none⟩) hgz).trans CL.out) ((X0.out.below BF.out).wide BF.out.size) M0.out K0.out (by omega) SJ.out (by omega) E2.out).mono ?_
    rintro x w' ⟨rfl, k2, rfl⟩
    have S3g := hideIt (S3f.out.drewN2 k2)
    have S4g := hideIt (S4f.out.drewN2 k2)
    have BG := hideIt (below_drewN BF.out k2)
    clear SJ S3f S4f BF
    go_wp2_with fail
    generalize wf.drewN k2 = wg at *
    have hP3 := ints_v A3 c3 l3 wg S3g.out R3.out.2 (by have := R3.out.1; omega)
    rw [Q3.out] at hP3
    refine hP3.mono ?_
    rintro x wh ⟨Ak, ck, rfl, gk, ha, hb⟩
    have BH := hideIt (BG.out.trans (hb.mono BG.out.size))
    have S4h := hideIt (S4g.out.next hb)
    have SK := hideIt ha
    clear ha hb BG S3g S4g hP3
    go_wp2_with fail
    refine (is_any w.heap.size A0 c0 l0 Ak ck b3 u3 e3 wh ((BH.out.cell (p := ⟨w.heap.size, 0, none⟩) hgz).trans CL.out) ((X0.out.below BH.out).wide BH.out.size) M0.out K0.out (by omega) SK.out (by omega) E3.out).mono ?_
    rintro x w' ⟨rfl, k3, rfl⟩
    have S4i := hideIt (S4h.out.drewN2 k3)
    have BI := hideIt (below_drewN BH.out k3)
    clear SK S4h BH
    go_wp2_with fail
    generalize wh.drewN k3 = wi at *
    have hP4 := digs_v A4 c4 l4 wi S4i.out R4.out.2 (by have := R4.out.1; omega)
    rw [Q4.out] at hP4
    refine hP4.mono ?_
    rintro x wj ⟨Al, cl, rfl, gl, ha, hb⟩
    have BJ := hideIt (BI.out.trans (hb.mono BI.out.size))
    have SL := hideIt ha
    clear ha hb BI S4i hP4
    go_wp2_with fail
    refine (is_any w.heap.size A0 c0 l0 Al cl b4 u4 e4 wj ((BJ.out.cell (p := ⟨w.heap.size, 0, none⟩) hgz).trans CL.out) ((X0.out.below BJ.out).wide BJ.out.size) M0.out K0.out (by omega) SL.out (by omega) E4.out).mono ?_
    rintro x w' ⟨rfl, k4, rfl⟩
    go_wp2
    go_ret
    exact ⟨rfl, below_drewN (BW.out.trans (BJ.out.mono BW.out.size)) k4⟩

set_option maxRecDepth 100000 in
theorem lifted (os : Os) (started : os.Started) (H : Type) (enc : TypeId × Value → H) :
    ReturnsInHanded {} Try.checked os 7 .any (Rows.wireCanonicalSpec.pre6 enc Try.prog Try.f7 Rows.wireCanonicalRow.domain false) (Rows.wireCanonicalSpec.post enc Try.prog Try.f7 false true false false) := by
  refine returnsInHanded_of_change_sized (C := Try.checked) own started (by kernel_rfl) Try.func7
    (ChangeSpec.witness6 (enc := enc) (C := Try.checked) false ⟨#[], #[.slice none 0 0], []⟩ 8 (by kernel_rfl) (by kernel_rfl) (by kernel_rfl) (by kernel_rfl)) ?_
  intro W base args ds gs before hval0 hW hcnd hsz0 _
  have hsz : (DataW.weightsEach Try.prog (Try.f7.params.toList ++ Rows.wireCanonicalSpec.plain.varTypes Try.prog) (ds ++ gs)).all (· ≤ reachBytes) = true := hsz0
  have hval : ∀ (j : Nat) t v, Try.f7.params[j]? = some t → args[j]? = some v → Value.okWide Try.prog W .any base t v := hval0
  have hW' := hW
  obtain ⟨p, q, hA0, hV, rfl, hfz, hnd⟩ := hW
  have hA : DataW.TrodAll enc Try.prog W 0 (fun _ => true) true Try.f7.params.toList args.toList ds p := hA0
  rw [Try.params7] at hA hval hsz
  obtain ⟨v0, vs0, d0, ds0, p0, q0, hargs, rfl, rfl, h0, r0⟩ := trodAll_cons hA
  obtain ⟨rfl, rfl, rfl⟩ := trodAll_nil r0
  obtain rfl : args = #[v0] := by cases args; simp_all
  obtain ⟨rfl, rfl⟩ := trodVars_none hV
  obtain ⟨a0, len0, cap0, rfl⟩ := okWide_slice Try.underlying26 (hval 0 26 v0 rfl rfl)
  have k0 := h0
  have lt0 : ∀ x ∈ p0, x.block < W.heap.size := by obtain ⟨m, hm⟩ := k0; exact DataW.trod_lt m _ _ _ hm
  obtain ⟨m0, n0, dd0, l0, rfl, x0⟩ := open_bytes h0
  have s0 : l0.length ≤ 140737488351232 := by
    rcases dd0 with ⟨_, e0⟩ | ⟨es, rs, e1, e0⟩
    · omega
    · subst e1
      have h7 := sized_slice hsz (j := 0) (t := 26) (e := 5) (elems := es) (spare := rs) rfl rfl Try.underlying26
      have h8 : Try.prog.bytesOf 5 = 1 := by kernel_rfl
      rw [h8] at h7
      simp only [reachBytes] at h7
      omega
  clear hA0 hval0 hsz0
  refine (walk a0 cap0 l0 W x0 m0 n0 s0).mono fun e W' ⟨he, bel⟩ => ?_
  subst he
  exact ⟨_, rfl, _, _, _, [], _, [], hW', trodAll_mk1 (shut_bool Try.underlying4 _), (trodAll_cons_mk (Below.trod laidOut (by kernel_rfl) (of_decide_eq_true (by kernel_rfl)) k0 bel lt0) trodAll_mk0), rfl, bel.frame _, fun h => by cases h⟩

theorem over : Rows.wireCanonicalRow.holds Try.pinned (OpenSpec.ofChange Rows.wireCanonicalSpec) :=
  OpenClaim.holds_of_wide 7 Try.f7 rfl rfl rfl rfl rfl rfl rfl ⟨rfl, rfl, rfl, rfl, rfl⟩ rfl rfl rfl rfl rfl (by kernel_rfl) Try.func7 (by kernel_rfl)
    (of_decide_eq_true (by kernel_rfl)) (by unfold Func.isWrapper; first | (rw [if_pos (by decide +kernel)]; kernel_rfl) | (rw [if_neg (by decide +kernel)]; exact ⟨rfl, rfl⟩))
    (fun os started H enc _ => lifted os started H enc)

theorem proved : Rows.WireCanonicalSaid := over

end Go.Proofs.Yticgbohkgjheaaa.wireCanonical
