/-
  The reference's encoding of a byte string, walked: Bytes.
-/
import Derived.Test.YtefalanfkihcdaaDoorRefInt
import Derived.Test.YtefalanfkihcdaaDoorDig
import Derived.Lib.ConvBytes
namespace Go.Proofs.YtefalanfkihcdaaDoor
open Go.RowKit
set_option linter.unusedVariables false

theorem below_bytes (w : World) (e : TypeId) (s : ByteArray) : Below w.heap.size w (Lib.bytesWorld w e s) :=
  ⟨rfl, rfl, rfl, by rw [Lib.bytesWorld_size]; omega, fun k hk => Lib.bytesWorld_at_old w e s k hk⟩
theorem bytes_new (w : World) (e : TypeId) (s : ByteArray) : ∀ j u, (s.data.toList.map bv)[j]? = some u → (Lib.bytesWorld w e s).cell? ((⟨w.heap.size, 0, none⟩ : Addr).add j) = some u := by
  intro j u hj
  rw [List.getElem?_map] at hj
  rcases hq : s.data.toList[j]? with _ | d
  · rw [hq] at hj; simp at hj
  · rw [hq] at hj
    simp only [Option.map_some, Option.some.injEq] at hj
    subst hj
    have hlt : j < s.data.toList.length := (List.getElem?_eq_some_iff.1 hq).1
    rw [addr_add, Nat.zero_add, Lib.bytesWorld_cell _ _ _ _ (by rw [Array.length_toList] at hlt; exact hlt), List.getD_eq_getElem?_getD, hq]
    rfl

set_option maxHeartbeats 400000 in
set_option maxRecDepth 100000 in
theorem refBytes_any (s : ByteArray) (w : World) (hs : s.size ≤ 100000000) :
    Calls Tryd.prog 56 #[.string s] w fun e w' =>
      ∃ v', e = .returned v' ∧ w'.ownsRow w.heap.size 5 1 v' (encB s.data.toList).length ((encB s.data.toList).map bv) ∧ Below w.heap.size w w' := by
  obtain ⟨i0, hi, hz0, hz1, hz2⟩ := info_parts Tryd.info5
  have hle := enc_le (s.size : Int) (by omega) (by omega)
  have hsz : s.data.toList.length = s.size := by rw [Array.length_toList]; rfl
  have HSZ := hideIt hsz
  clear hsz
  go_enter Tryd.func56, Tryd.ntmps56
  go_wp2_with (first
    | (go_at_call 64; refine (refInt_any _ _ (by omega) (by omega)).mono ?_; rintro e w1 ⟨v1, rfl, hown, hbl⟩; have HO := hideIt hown; have HB := hideIt hbl; have hcv := Lib.run_convert_string_bytes w1 9 22 5 s Tryd.underlying9 Tryd.underlying22 Tryd.underlying5; have HBY := hideIt (below_bytes w1 5 s); clear hown hbl)
    | (at_builtin; refine wpList_append_own _ rfl (.tmp 5) (.tmp 7) 22 rfl w.heap.size 5 i0 (.int .u8 0) 1 1 Tryd.underlying22 hi hz0 hz1 hz2 rfl (by decide) v1 (enc (s.size : Int)).length ((enc (s.size : Int)).map bv) rfl (own_kept HO.out HBY.out) ⟨w1.heap.size, 0, none⟩ s.size _ (s.data.toList.map bv) rfl (by rw [List.length_map, HSZ.out, Nat.mul_one]) (bytes_new w1 5 s) (bv_one _) (by unfold maxLen; omega) (by omega) (Nat.le_trans HB.out.size HBY.out.size) ?_; intro v2 w2 hown2 hg2 _))
  go_ret
  refine ⟨v2, rfl, ?_, below_grown (HB.out.trans (HBY.out.mono HB.out.size)) (own_kept HO.out HBY.out) (Nat.le_refl _) (Nat.le_trans HB.out.size HBY.out.size) hg2⟩
  unfold encB
  rw [HSZ.out, List.length_append, HSZ.out, List.map_append]
  exact hown2

end Go.Proofs.YtefalanfkihcdaaDoor
