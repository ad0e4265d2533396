/-
  The reference's encoding of a byte string, walked: Bytes.
  The inputs of digests, walked: the reference's Input.
-/
import Derived.Test.YtkjnimcapjjfdaaDoorRefInt
import Derived.Test.YtkjnimcapjjfdaaDoorDig
import Derived.Lib.ConvBytes
import Derived.Test.YtkjnimcapjjfdaaDoorMsg
namespace Go.Proofs.YtkjnimcapjjfdaaDoor
open Go.RowKit
set_option linter.unusedVariables false

theorem below_bytes (w : World) (e : TypeId) (s : ByteArray) : Below w.heap.size w (Lib.bytesWorld w e s) :=
  ⟨rfl, rfl, rfl, by rw [Lib.bytesWorld_size]; omega, fun k hk => Lib.bytesWorld_at_old w e s k hk⟩
theorem bytes_new (w : World) (e : TypeId) (s : ByteArray) : ∀ j u, (s.data.toList.map bv)[j]? = some u → (Lib.bytesWorld w e s).cell? ((⟨w.heap.size, 0, none⟩ : Addr).add j) = some u := by
  intro j u hj
  rw [List.getElem?_map] at hj
  rcases hq : s.data.toList[j]? with _ | d
  · rw [hq] at hj; simp at hj
  · rw [hq] at hj
    simp only [Option.map_some, Option.some.injEq] at hj
    subst hj
    have hlt : j < s.data.toList.length := (List.getElem?_eq_some_iff.1 hq).1
    rw [addr_add, Nat.zero_add, Lib.bytesWorld_cell _ _ _ _ (by rw [Array.length_toList] at hlt; exact hlt), List.getD_eq_getElem?_getD, hq]
    rfl

set_option maxHeartbeats 400000 in
set_option maxRecDepth 100000 in
theorem refBytes_any (s : ByteArray) (w : World) (hs : s.size ≤ 100000000) :
    Calls Tryd.prog 56 #[.string s] w fun e w' =>
      ∃ v', e = .returned v' ∧ w'.ownsRow w.heap.size 5 1 v' (encB s.data.toList).length ((encB s.data.toList).map bv) ∧ Below w.heap.size w w' := by
  obtain ⟨i0, hi, hz0, hz1, hz2⟩ := info_parts Tryd.info5
  have hle := enc_le (s.size : Int) (by omega) (by omega)
  have hsz : s.data.toList.length = s.size := by rw [Array.length_toList]; rfl
  have HSZ := hideIt hsz
  clear hsz
  go_enter Tryd.func56, Tryd.ntmps56
  go_wp2_with (first
    | (go_at_call 64; refine (refInt_any _ _ (by omega) (by omega)).mono ?_; rintro e w1 ⟨v1, rfl, hown, hbl⟩; have HO := hideIt hown; have HB := hideIt hbl; have hcv := Lib.run_convert_string_bytes w1 9 22 5 s Tryd.underlying9 Tryd.underlying22 Tryd.underlying5; have HBY := hideIt (below_bytes w1 5 s); clear hown hbl)
    | (at_builtin; refine wpList_append_own _ rfl (.tmp 5) (.tmp 7) 22 rfl w.heap.size 5 i0 (.int .u8 0) 1 1 Tryd.underlying22 hi hz0 hz1 hz2 rfl (by decide) v1 (enc (s.size : Int)).length ((enc (s.size : Int)).map bv) rfl (own_kept HO.out HBY.out) ⟨w1.heap.size, 0, none⟩ s.size _ (s.data.toList.map bv) rfl (by rw [List.length_map, HSZ.out, Nat.mul_one]) (bytes_new w1 5 s) (bv_one _) (by unfold maxLen; omega) (by omega) (Nat.le_trans HB.out.size HBY.out.size) ?_; intro v2 w2 hown2 hg2 _))
  go_ret
  refine ⟨v2, rfl, ?_, below_grown (HB.out.trans (HBY.out.mono HB.out.size)) (own_kept HO.out HBY.out) (Nat.le_refl _) (Nat.le_trans HB.out.size HBY.out.size) hg2⟩
  unfold encB
  rw [HSZ.out, List.length_append, HSZ.out, List.map_append]
  exact hown2

set_option maxHeartbeats 800000 in
set_option maxRecDepth 100000 in
theorem input_any (A : Option Addr) (B c : Nat) (t : Int) (ps : List ByteArray) (w : World) (hx : Sl w B A 1 ps.length (ps.map Value.string)) (hps : ps.length ≤ 1000) (hs : ∀ s ∈ ps, s.size ≤ 100000) (hB : B ≤ w.heap.size) :
    Calls Tryd.prog 37 #[.int .i64 t, .slice A ps.length c] w fun e w' =>
      ∃ v', e = .returned v' ∧ w'.ownsRow w.heap.size 5 1 v' (msgS (tagB t) ps).length ((msgS (tagB t) ps).map bv) ∧ Below w.heap.size w w' := by
  obtain ⟨i0, hi, hz0, hz1, hz2⟩ := info_parts Tryd.info5
  have HX := hideIt hx
  have HS := hideIt hs
  have hcv : ∀ W, (convert 3 5 (.int .i64 t)).run Tryd.prog W = .ok (bv (tagB t)) W := fun W => by
    rw [run_convert_int (P := Tryd.prog) W 3 5 .i64 t (by kernel_rfl) (by kernel_rfl), show Tryd.prog.intKind 5 = .u8 by kernel_rfl, IntKind.wrap_u8', tag_cell]
  obtain ⟨tb, htb⟩ : ∃ tb, tb = tagB t := ⟨_, rfl⟩
  rw [← htb] at hcv ⊢
  clear hx hs htb
  go_enter Tryd.func37, Tryd.ntmps37
  go_wp2
  go_loopg [5, 6] ps.length (fun g s5 s6 wr => ∃ k : Nat, g + k = ps.length ∧ s6 = .int .i64 k ∧ Hid (wr.ownsRow w.heap.size 5 1 s5 (msgS tb (ps.take k)).length ((msgS tb (ps.take k)).map bv)) ∧ Hid (Below w.heap.size w wr))
  case atStart => exact ⟨0, by omega, rfl, ⟨by simp [msgS, msgB], .inr ⟨w.heap.size, 1, #[bv tb], rfl, Nat.le_refl _, heap_alloc_new w _, by simp [msgS, msgB], by decide, rfl, by simp [msgS, msgB]⟩⟩, below_new w _⟩
  case round =>
    obtain ⟨k, hg, rfl, HO, HB⟩ := hrel
    by_cases hk : k < ps.length
    · obtain ⟨b, off, rfl, hb, hc⟩ := (HX.out.below (HB.out.mono hB)).str hk
      have hsz : ps[k].size ≤ 100000 := HS.out _ (List.getElem_mem hk)
      obtain ⟨s, hs⟩ : ∃ s, s = ps[k] := ⟨_, rfl⟩
      rw [← hs] at hc hsz
      have HST : Hid (msgS tb (ps.take (k + 1)) = msgS tb (ps.take k) ++ encB (txt s)) := by rw [take_snoc ps k hk, msgS_snoc, ← hs]; exact rfl
      obtain ⟨L, hL⟩ : ∃ L, L = msgS tb (ps.take k) := ⟨_, rfl⟩
      have hLl : L.length ≤ 200000000 := by
        have := msgS_le tb (ps.take k) (fun x hx => HS.out x (List.mem_of_mem_take hx))
        rw [List.length_take] at this
        rw [hL]; omega
      have hel := encB_len_le s hsz
      rw [← hL] at HO HST
      clear hs hL
      obtain ⟨w1, rfl⟩ : ∃ x, x = wr := ⟨wr, rfl⟩
      obtain ⟨E, hE⟩ : ∃ E, E = encB (txt s) := ⟨_, rfl⟩
      have HBY := refBytes_any s w1 (by omega)
      rw [show encB s.data.toList = E from hE.symm] at HBY
      rw [← hE] at HST hel
      have HBY := hideIt HBY
      clear hE
      go_wp2_with (first
        | (go_at_call 56; refine HBY.out.mono ?_; rintro e w2 ⟨v2, rfl, hown2, hb2⟩; obtain ⟨A2, c2, rfl, hc21, hc22⟩ := own_form hown2; have HS2 := hideIt (Sl.of_own hown2); have HB2 := hideIt hb2; clear hown2 hb2)
        | ((with_reducible refine at_append ?_); refine wpList_app rfl (.tmp 16) (.tmp 21) 22 rfl w.heap.size 5 i0 (.int .u8 0) 1 1 Tryd.underlying22 hi hz0 hz1 hz2 rfl (by decide) _ L.length (L.map bv) rfl (own_kept HO.out HB2.out) _ _ E.length _ (E.map bv) rfl HS2.out (bv_one _) (by unfold maxLen; omega) (by omega) (Nat.le_trans HB.out.size HB2.out.size) ?_; intro v3 w3 ho3 hb3; have HO3 := own_is (n' := (L ++ E).length) (xs' := (L ++ E).map bv) ho3 (by rw [List.length_append]) (by rw [List.map_append]); have HB3 := hideIt ((HB.out.trans (HB2.out.mono HB.out.size)).trans hb3); clear ho3 hb3))
      go_roundg (gk - 1)
      case measure => omega
      case rel => exact ⟨k + 1, by omega, by go_num, by rw [HST.out]; exact HO3, HB3⟩
    · go_wp2
      go_ret
      have hkl : k = ps.length := by omega
      have := HO.out
      rw [hkl, List.take_length] at this
      exact ⟨_, rfl, this, HB.out⟩

end Go.Proofs.YtkjnimcapjjfdaaDoor
