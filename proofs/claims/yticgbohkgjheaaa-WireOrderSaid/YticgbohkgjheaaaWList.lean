/-
  The encodings of a byte string and of a list of integers, walked: wire.Bytes, wire.Ints.
-/
import Derived.Test.YticgbohkgjheaaaWInt
import Derived.Test.YticgbohkgjheaaaDig
import Derived.Lib.AppendStr
namespace Go.Proofs.Yticgbohkgjheaaa
open Go.RowKit
set_option linter.unusedVariables false

set_option maxHeartbeats 400000 in
set_option maxRecDepth 100000 in
theorem bytes_any (s : ByteArray) (w : World) (hs : s.size ≤ 100000000) :
    Calls Try.prog 15 #[.string s] w fun e w' =>
      ∃ v', e = .returned v' ∧ w'.ownsRow w.heap.size 5 1 v' (encB s.data.toList).length ((encB s.data.toList).map bv) ∧ Below w.heap.size w w' := by
  obtain ⟨i0, hi, hz0, hz1, hz2⟩ := info_parts Try.info5
  have hle := enc_le (s.size : Int) (by omega) (by omega)
  have hsz : s.data.toList.length = s.size := by rw [Array.length_toList]; rfl
  have HSZ := hideIt hsz
  clear hsz
  go_enter Try.func15, Try.ntmps15
  go_wp2_with (first
    | (go_at_call 13; refine (int_any _ _ (by omega) (by omega)).mono ?_; rintro e w1 ⟨v1, rfl, hown, hbl⟩; have HO := hideIt hown; have HB := hideIt hbl; clear hown hbl)
    | (at_builtin; refine Lib.wpList_append_own_string _ rfl _ _ 26 9 rfl w.heap.size 5 i0 Try.underlying26 Try.underlying9 hi hz0 hz1 hz2 v1 (enc (s.size : Int)).length ((enc (s.size : Int)).map bv) rfl HO.out s rfl (by unfold maxLen; omega) (by omega) HB.out.size ?_; intro v2 w2 hown2 hg2 _))
  go_ret
  refine ⟨v2, rfl, ?_, below_grown HB.out HO.out (Nat.le_refl _) HB.out.size hg2⟩
  unfold encB
  rw [HSZ.out, List.length_append, HSZ.out, List.map_append]
  exact hown2

set_option maxHeartbeats 400000 in
set_option maxRecDepth 100000 in
theorem ints_any (A : Option Addr) (B c : Nat) (l : List Int) (w : World) (hx : Sl w B A 1 l.length (l.map iv)) (hB : B ≤ w.heap.size)
    (hr : ∀ n ∈ l, -9223372036854775808 ≤ n ∧ n ≤ 9223372036854775807) (hl : l.length ≤ 10000000) :
    Calls Try.prog 17 #[.slice A l.length c] w fun e w' =>
      ∃ v', e = .returned v' ∧ w'.ownsRow w.heap.size 5 1 v' (encI l).length ((encI l).map bv) ∧ Below w.heap.size w w' := by
  have HX := hideIt hx
  have HR := hideIt hr
  clear hx hr
  have hle := enc_le (l.length : Int) (by omega) (by omega)
  go_enter Try.func17, Try.ntmps17
  go_wp2_with (go_at_call 13; refine (int_any _ _ (by omega) (by omega)).mono ?_; rintro e w1 ⟨v1, rfl, hown, hbl⟩; have HO := hideIt hown; have HB := hideIt hbl; clear hown hbl)
  go_loopg [3, 11] l.length (fun g s3 s11 wr => ∃ k : Nat, g + k = l.length ∧ s11 = .int .i64 k ∧ Hid (wr.ownsRow w.heap.size 5 1 s3 (enc (l.length : Int) ++ (l.take k).flatMap enc).length ((enc (l.length : Int) ++ (l.take k).flatMap enc).map bv)) ∧ Hid (Below w.heap.size w wr))
  case atStart => exact ⟨0, by omega, rfl, by simpa using HO, HB⟩
  case round =>
    obtain ⟨k, hg, rfl, HO1, HB1⟩ := hrel
    by_cases hk : k < l.length
    · obtain ⟨b, off, rfl, hb, hc⟩ := (HX.out.below (HB1.out.mono hB)).num hk
      have hn := HR.out l[k] (List.getElem_mem hk)
      have hfl := flat_le (l.take k) (fun n hn => HR.out n (List.mem_of_mem_take hn))
      rw [List.length_take] at hfl
      go_wp2_with (go_at_call 32; refine (appendInt_any w.heap.size _ (enc (l.length : Int) ++ (l.take k).flatMap enc) l[k] _ hn.1 hn.2 (by rw [List.length_append]; omega) HB1.out.size HO1.out).mono ?_; rintro e w2 ⟨v2, rfl, hown, hbl⟩; have HO2 := hideIt hown; have HB2 := hideIt hbl; clear hown hbl)
      go_roundg (gk - 1)
      case measure => omega
      case rel =>
        refine ⟨k + 1, by omega, by go_num, ?_, HB1.out.trans HB2.out⟩
        have := HO2.out
        rw [List.append_assoc] at this
        rw [take_snoc _ _ hk, List.flatMap_append, List.flatMap_singleton]
        exact this
    · go_wp2
      go_ret
      have hkl : k = l.length := by omega
      have := HO1.out
      rw [hkl, List.take_length] at this
      exact ⟨_, rfl, this, HB1.out⟩

set_option maxHeartbeats 400000 in
set_option maxRecDepth 100000 in
theorem digests_any (A : Option Addr) (B c : Nat) (l : List (List UInt8)) (w : World) (hx : Sl w B A 16 l.length (l.flatten.map bv)) (hd : ∀ d ∈ l, d.length = 16) (hB : B ≤ w.heap.size) (hl : l.length ≤ 1000000) :
    Calls Try.prog 19 #[.slice A l.length c] w fun e w' =>
      ∃ v', e = .returned v' ∧ w'.ownsRow w.heap.size 5 1 v' (encD l).length ((encD l).map bv) ∧ Below w.heap.size w w' := by
  obtain ⟨i0, hi, hz0, hz1, hz2⟩ := info_parts Try.info5
  have HX := hideIt hx
  have HD := hideIt hd
  clear hx hd
  have hle := enc_le (l.length : Int) (by omega) (by omega)
  have hsl := arr16_all
  go_enter Try.func19, Try.ntmps19
  go_wp2_with (go_at_call 13; refine (int_any _ _ (by omega) (by omega)).mono ?_; rintro e w1 ⟨v1, rfl, hown, hbl⟩; have HO := hideIt hown; have HB := hideIt hbl; clear hown hbl)
  go_loopg [3, 11] l.length (fun g s3 s11 wr => ∃ k : Nat, g + k = l.length ∧ s11 = .int .i64 k ∧ Hid (wr.ownsRow w.heap.size 5 1 s3 (enc (l.length : Int) ++ (l.take k).flatten).length ((enc (l.length : Int) ++ (l.take k).flatten).map bv)) ∧ Hid (Below w.heap.size w wr))
  case atStart => exact ⟨0, by omega, rfl, by simpa using HO, HB⟩
  case round =>
    obtain ⟨k, hg, rfl, HO1, HB1⟩ := hrel
    by_cases hk : k < l.length
    · obtain ⟨b, off, rfl, hb, hc⟩ := (HX.out.below (HB1.out.mono hB)).dig HD.out hk
      have hdk := HD.out l[k] (List.getElem_mem hk)
      have HC := hideIt hc
      have HDK := hideIt hdk
      have hfl := flatten_len (l.take k) (fun n hn => HD.out n (List.mem_of_mem_take hn))
      rw [List.length_take] at hfl
      have hfl2 : (l.take k).flatten.length ≤ 16 * l.length := by omega
      clear hc hdk hfl
      go_wp2_with (first
        | (refine wpList_load_mid rfl 51 (.tmp 13) rfl b (off + k * 16) rfl (l[k].map bv) (.array 16 5) (range16 HC.out) (by kernel_rfl) rfl (isize16 _ HDK.out) ?_)
        | (refine wpList_store_mid rfl 51 (.tmp 5) (.tmp 14) rfl wr.heap.size 0 (l[k].map bv).toArray rfl rfl (there_blk (Blk.new wr _ _) (by simp [HDK.out])) (isize16' _ HDK.out) (one16 _) ?_; go_simp)
        | (at_builtin; go_must (have hnd := newdig wr (List.replicate 16 (.int .u8 0)) 51 rfl l[k] HDK.out; refine wpList_append_own _ rfl (.tmp 15) (.tmp 16) 26 rfl w.heap.size 5 i0 (.int .u8 0) 1 1 Try.underlying26 hi hz0 hz1 hz2 rfl (by decide) _ (enc (l.length : Int) ++ (l.take k).flatten).length ((enc (l.length : Int) ++ (l.take k).flatten).map bv) rfl (own_kept HO1.out hnd.1) ⟨wr.heap.size, 0, none⟩ 16 16 (l[k].map bv) rfl (by rw [List.length_map, HDK.out]) hnd.2.2 (bv_one _) (by rw [List.length_append]; unfold maxLen; omega) (by rw [List.length_append]; omega) (Nat.le_trans HB1.out.size hnd.1.size) ?_); intro v2 w2 hown2 hg2 _; have HO2 := hideIt hown2; have HB2 := hideIt (below_grown (HB1.out.trans (hnd.1.mono HB1.out.size)) (own_kept HO1.out hnd.1) (Nat.le_refl _) (Nat.le_trans HB1.out.size hnd.1.size) hg2); clear hown2 hg2 hnd))
      go_roundg (gk - 1)
      case measure => omega
      case rel =>
        refine ⟨k + 1, by omega, by go_num, ?_, HB2.out⟩
        have := HO2.out
        rw [take_snoc _ _ hk, List.flatten_append, List.flatten_singleton, ← List.append_assoc, List.length_append, HDK.out, List.map_append]
        exact this
    · go_wp2
      go_ret
      have hkl : k = l.length := by omega
      have := HO1.out
      rw [hkl, List.take_length] at this
      exact ⟨_, rfl, this, HB1.out⟩

end Go.Proofs.Yticgbohkgjheaaa
