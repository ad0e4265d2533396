/-
  The reference's encodings of a byte string and of lists, walked: Bytes, Ints, Digests.
-/
import Derived.Test.YticgbohkgjheaaaRefInt
import Derived.Test.YticgbohkgjheaaaDig
import Derived.Lib.ConvBytes
namespace Go.Proofs.Yticgbohkgjheaaa
open Go.RowKit
set_option linter.unusedVariables false

theorem below_bytes (w : World) (e : TypeId) (s : ByteArray) : Below w.heap.size w (Lib.bytesWorld w e s) :=
  ⟨rfl, rfl, rfl, by rw [Lib.bytesWorld_size]; omega, fun k hk => Lib.bytesWorld_at_old w e s k hk⟩
theorem bytes_new (w : World) (e : TypeId) (s : ByteArray) : ∀ j u, (s.data.toList.map bv)[j]? = some u → (Lib.bytesWorld w e s).cell? ((⟨w.heap.size, 0, none⟩ : Addr).add j) = some u := by
  intro j u hj
  rw [List.getElem?_map] at hj
  rcases hq : s.data.toList[j]? with _ | d
  · rw [hq] at hj; simp at hj
  · rw [hq] at hj
    simp only [Option.map_some, Option.some.injEq] at hj
    subst hj
    have hlt : j < s.data.toList.length := (List.getElem?_eq_some_iff.1 hq).1
    rw [addr_add, Nat.zero_add, Lib.bytesWorld_cell _ _ _ _ (by rw [Array.length_toList] at hlt; exact hlt), List.getD_eq_getElem?_getD, hq]
    rfl

set_option maxHeartbeats 400000 in
set_option maxRecDepth 100000 in
theorem refBytes_any (s : ByteArray) (w : World) (hs : s.size ≤ 100000000) :
    Calls Try.prog 16 #[.string s] w fun e w' =>
      ∃ v', e = .returned v' ∧ w'.ownsRow w.heap.size 5 1 v' (encB s.data.toList).length ((encB s.data.toList).map bv) ∧ Below w.heap.size w w' := by
  obtain ⟨i0, hi, hz0, hz1, hz2⟩ := info_parts Try.info5
  have hle := enc_le (s.size : Int) (by omega) (by omega)
  have hsz : s.data.toList.length = s.size := by rw [Array.length_toList]; rfl
  have HSZ := hideIt hsz
  clear hsz
  go_enter Try.func16, Try.ntmps16
  go_wp2_with (first
    | (go_at_call 14; refine (refInt_any _ _ (by omega) (by omega)).mono ?_; rintro e w1 ⟨v1, rfl, hown, hbl⟩; have HO := hideIt hown; have HB := hideIt hbl; have hcv := Lib.run_convert_string_bytes w1 9 26 5 s Try.underlying9 Try.underlying26 Try.underlying5; have HBY := hideIt (below_bytes w1 5 s); clear hown hbl)
    | (at_builtin; refine wpList_append_own _ rfl (.tmp 5) (.tmp 7) 26 rfl w.heap.size 5 i0 (.int .u8 0) 1 1 Try.underlying26 hi hz0 hz1 hz2 rfl (by decide) v1 (enc (s.size : Int)).length ((enc (s.size : Int)).map bv) rfl (own_kept HO.out HBY.out) ⟨w1.heap.size, 0, none⟩ s.size _ (s.data.toList.map bv) rfl (by rw [List.length_map, HSZ.out, Nat.mul_one]) (bytes_new w1 5 s) (bv_one _) (by unfold maxLen; omega) (by omega) (Nat.le_trans HB.out.size HBY.out.size) ?_; intro v2 w2 hown2 hg2 _))
  go_ret
  refine ⟨v2, rfl, ?_, below_grown (HB.out.trans (HBY.out.mono HB.out.size)) (own_kept HO.out HBY.out) (Nat.le_refl _) (Nat.le_trans HB.out.size HBY.out.size) hg2⟩
  unfold encB
  rw [HSZ.out, List.length_append, HSZ.out, List.map_append]
  exact hown2

set_option maxHeartbeats 400000 in
set_option maxRecDepth 100000 in
theorem refInts_any (A : Option Addr) (B c : Nat) (l : List Int) (w : World) (hx : Sl w B A 1 l.length (l.map iv)) (hB : B ≤ w.heap.size)
    (hr : ∀ n ∈ l, -9223372036854775808 ≤ n ∧ n ≤ 9223372036854775807) (hl : l.length ≤ 10000000) :
    Calls Try.prog 18 #[.slice A l.length c] w fun e w' =>
      ∃ v', e = .returned v' ∧ w'.ownsRow w.heap.size 5 1 v' (encI l).length ((encI l).map bv) ∧ Below w.heap.size w w' := by
  obtain ⟨i0, hi, hz0, hz1, hz2⟩ := info_parts Try.info5
  have HX := hideIt hx
  have HR := hideIt hr
  clear hx hr
  have hle := enc_le (l.length : Int) (by omega) (by omega)
  go_enter Try.func18, Try.ntmps18
  go_wp2_with (go_at_call 14; refine (refInt_any _ _ (by omega) (by omega)).mono ?_; rintro e w1 ⟨v1, rfl, hown, hbl⟩; have HO := hideIt hown; have HB := hideIt hbl; clear hown hbl)
  go_loopg [3, 4] l.length (fun g s3 s4 wr => ∃ k : Nat, g + k = l.length ∧ s4 = .int .i64 k ∧ Hid (wr.ownsRow w.heap.size 5 1 s3 (enc (l.length : Int) ++ (l.take k).flatMap enc).length ((enc (l.length : Int) ++ (l.take k).flatMap enc).map bv)) ∧ Hid (Below w.heap.size w wr))
  case atStart => exact ⟨0, by omega, rfl, by simpa using HO, HB⟩
  case round =>
    obtain ⟨k, hg, rfl, HO1, HB1⟩ := hrel
    by_cases hk : k < l.length
    · obtain ⟨b, off, rfl, hb, hc⟩ := (HX.out.below (HB1.out.mono hB)).num hk
      have hn := HR.out l[k] (List.getElem_mem hk)
      have hen := enc_le l[k] hn.1 hn.2
      have hfl := flat_le (l.take k) (fun n hn => HR.out n (List.mem_of_mem_take hn))
      rw [List.length_take] at hfl
      obtain ⟨L, hL⟩ : ∃ L, L = enc (l.length : Int) ++ (l.take k).flatMap enc := ⟨_, rfl⟩
      have hLl : L.length ≤ 200000000 := by rw [hL, List.length_append]; omega
      rw [← hL] at HO1
      have HL := hideIt hL
      clear hL hfl
      go_wp2_with (first
        | (go_at_call 14; refine (refInt_any l[k] _ hn.1 hn.2).mono ?_; rintro e w2 ⟨v2, rfl, hown, hbl⟩; obtain ⟨A2, c2, rfl, hc1, hc2⟩ := own_form hown; obtain ⟨b2, o2, rfl, hb2, hce⟩ := (Sl.of_own hown).2 (by simp [enc]); have HC2 := hideIt hce; have HB2 := hideIt hbl; clear hown hbl hce)
        | (at_builtin; refine wpList_append_own _ rfl (.tmp 14) (.tmp 19) 26 rfl w.heap.size 5 i0 (.int .u8 0) 1 1 Try.underlying26 hi hz0 hz1 hz2 rfl (by decide) _ L.length (L.map bv) rfl (own_kept HO1.out (HB2.out)) ⟨b2, o2, none⟩ (enc l[k]).length c2 ((enc l[k]).map bv) rfl (by rw [List.length_map, Nat.mul_one]) (fun j u hj => by rw [addr_add]; exact HC2.out j u hj) (bv_one _) (by unfold maxLen; omega) (by omega) (Nat.le_trans HB1.out.size HB2.out.size) ?_; intro v3 w3 hown3 hg3 _; have HO3 := hideIt hown3; have HB3 := hideIt (below_grown (HB1.out.trans (HB2.out.mono HB1.out.size)) (own_kept HO1.out HB2.out) (Nat.le_refl _) (Nat.le_trans HB1.out.size HB2.out.size) hg3); clear hown3 hg3))
      go_roundg (gk - 1)
      case measure => omega
      case rel =>
        refine ⟨k + 1, by omega, by go_num, ?_, HB3.out⟩
        have := HO3.out
        rw [take_snoc _ _ hk, List.flatMap_append, List.flatMap_singleton, ← List.append_assoc, ← HL.out, List.length_append, List.map_append]
        exact this
    · go_wp2
      go_ret
      have hkl : k = l.length := by omega
      have := HO1.out
      rw [hkl, List.take_length] at this
      exact ⟨_, rfl, this, HB1.out⟩

set_option maxHeartbeats 800000 in
set_option maxRecDepth 100000 in
theorem refDigests_any (A : Option Addr) (B c : Nat) (l : List (List UInt8)) (w : World) (hx : Sl w B A 16 l.length (l.flatten.map bv)) (hd : ∀ d ∈ l, d.length = 16) (hB : B ≤ w.heap.size) (hl : l.length ≤ 1000000) :
    Calls Try.prog 20 #[.slice A l.length c] w fun e w' =>
      ∃ v', e = .returned v' ∧ w'.ownsRow w.heap.size 5 1 v' (encD l).length ((encD l).map bv) ∧ Below w.heap.size w w' := by
  obtain ⟨i0, hi, hz0, hz1, hz2⟩ := info_parts Try.info5
  have HX := hideIt hx
  have HD := hideIt hd
  clear hx hd
  have hle := enc_le (l.length : Int) (by omega) (by omega)
  go_enter Try.func20, Try.ntmps20
  go_wp2_with (go_at_call 14; refine (refInt_any _ _ (by omega) (by omega)).mono ?_; rintro e w1 ⟨v1, rfl, hown, hbl⟩; have HO := hideIt hown; have HB := hideIt hbl; clear hown hbl)
  go_loopg [3, 4] l.length (fun g s3 s4 wr => ∃ k : Nat, g + k = l.length ∧ s4 = .int .i64 k ∧ Hid (wr.ownsRow w.heap.size 5 1 s3 (enc (l.length : Int) ++ (l.take k).flatten).length ((enc (l.length : Int) ++ (l.take k).flatten).map bv)) ∧ Hid (Below w.heap.size w wr))
  case atStart => exact ⟨0, by omega, rfl, by simpa using HO, HB⟩
  case round =>
    obtain ⟨k, hg, rfl, HO1, HB1⟩ := hrel
    obtain ⟨w2, rfl⟩ : ∃ x, x = wr := ⟨wr, rfl⟩
    obtain ⟨g1, rfl⟩ : ∃ x, x = gk := ⟨gk, rfl⟩
    by_cases hk : k < l.length
    · have hdk := HD.out l[k] (List.getElem_mem hk)
      have HDK := hideIt hdk
      have hfl := flatten_len (l.take k) (fun n hn => HD.out n (List.mem_of_mem_take hn))
      rw [List.length_take] at hfl
      obtain ⟨L, hL⟩ : ∃ L, L = enc (l.length : Int) ++ (l.take k).flatten := ⟨_, rfl⟩
      have hLl : L.length ≤ 20000000 := by rw [hL, List.length_append]; omega
      rw [← hL] at HO1
      have HL := hideIt hL
      obtain ⟨b, off, rfl, hb⟩ : ∃ b off, A = some ⟨b, off, none⟩ ∧ b < B := by
        obtain ⟨b, off, e, hb, _⟩ := (HX.out).dig HD.out hk
        exact ⟨b, off, e, hb⟩
      clear hL hfl hdk
      go_wp2
      go_loopg [3, 5] 16 (fun g s3 s5 wx => ∃ i : Nat, g + i = 16 ∧ s5 = .int .i64 i ∧ Hid (wx.ownsRow w.heap.size 5 1 s3 (L.length + i) ((L ++ l[k].take i).map bv)) ∧ Hid (Below w.heap.size w wx))
      case atStart => exact ⟨0, by omega, rfl, by simpa using HO1, HB1⟩
      case round =>
        obtain ⟨i, hg2, rfl, HO2, HB2⟩ := hrel
        by_cases hi16 : i < 16
        · have hi' : i < l[k].length := by have := HDK.out; omega
          have hc : wr.cell? ⟨b, off + k * 16 + i, none⟩ = some (bv l[k][i]) := by
            obtain ⟨b', off', e, hb', hc⟩ := (HX.out.below (HB2.out.mono hB)).dig HD.out hk
            injection e with e
            injection e with e1 e2
            subst e1 e2
            have := hc.2 i (bv l[k][i]) (by rw [List.getElem?_map, List.getElem?_eq_getElem hi']; rfl)
            rwa [addr_add] at this
          obtain ⟨M, hM⟩ : ∃ M, M = L ++ l[k].take i := ⟨_, rfl⟩
          have hMl : M.length = L.length + i := by rw [hM, List.length_append, List.length_take]; omega
          rw [← hM] at HO2
          have HM := hideIt hM
          have hu := l[k][i].toNat_lt
          clear hM
          go_wp2_with (at_builtin; refine wpList_append_own _ rfl (.tmp 19) (.tmp 26) 26 rfl w.heap.size 5 i0 (.int .u8 0) 1 1 Try.underlying26 hi hz0 hz1 hz2 rfl (by decide) _ (L.length + i) (M.map bv) rfl (own_kept HO2.out (below_one wr 5 _)) ⟨wr.heap.size, 0, none⟩ 1 1 [bv l[k][i]] rfl rfl (one_new wr 5 _) (one_is _) (by unfold maxLen; omega) (by omega) (Nat.le_trans HB2.out.size (below_one _ _ _).size) ?_; intro v9 w9 hown9 hg9 _)
          have hb1 := below_one wr 5 (bv l[k][i])
          have hb9 : Below w.heap.size w w9 := below_grown (HB2.out.trans (hb1.mono HB2.out.size)) (own_kept HO2.out hb1) (Nat.le_refl _) (Nat.le_trans HB2.out.size hb1.size) hg9
          have hown10 := own_snoc (d := l[k][i]) hown9 hMl.symm rfl
          have hown11 : w9.ownsRow w.heap.size 5 1 v9 (L.length + (i + 1)) ((L ++ l[k].take (i + 1)).map bv) := by
            rw [take_snoc _ _ hi', ← List.append_assoc, ← HM.out]
            have e1 : L.length + (i + 1) = (M ++ [l[k][i]]).length := by rw [List.length_append, hMl]; rfl
            rw [e1]
            exact hown10
          have HO9 := hideIt hown11
          have HB9 := hideIt hb9
          clear hown9 hg9 hb1 hb9 hown10 hown11
          go_wp2
          go_roundg (gk - 1)
          case measure => omega
          case rel => exact ⟨i + 1, by omega, by go_num, HO9, HB9⟩
        · have h16 : i = 16 := by omega
          subst h16
          go_wp2
          go_roundg (g1 - 1)
          case measure => omega
          case rel =>
            refine ⟨k + 1, by omega, by go_num, ?_, HB2.out⟩
            have h2 := HO2.out
            rw [List.take_of_length_le (by rw [HDK.out]; omega)] at h2
            rw [take_snoc _ _ hk, List.flatten_append, List.flatten_singleton, ← List.append_assoc, ← HL.out, List.length_append, HDK.out]
            exact h2
    · go_wp2
      go_ret
      have hkl : k = l.length := by omega
      have := HO1.out
      rw [hkl, List.take_length] at this
      exact ⟨_, rfl, this, HB1.out⟩

end Go.Proofs.Yticgbohkgjheaaa
