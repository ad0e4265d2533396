/-
  The encoding of a byte string, walked: wire.Bytes.
-/
import Derived.Test.YtkjnimcapjjfdaaDoorWInt
import Derived.Test.YtkjnimcapjjfdaaDoorDig
import Derived.Lib.AppendStr
namespace Go.Proofs.YtkjnimcapjjfdaaDoor
open Go.RowKit
set_option linter.unusedVariables false

set_option maxHeartbeats 400000 in
set_option maxRecDepth 100000 in
theorem bytes_any (s : ByteArray) (w : World) (hs : s.size ≤ 100000000) :
    Calls Tryd.prog 55 #[.string s] w fun e w' =>
      ∃ v', e = .returned v' ∧ w'.ownsRow w.heap.size 5 1 v' (encB s.data.toList).length ((encB s.data.toList).map bv) ∧ Below w.heap.size w w' := by
  obtain ⟨i0, hi, hz0, hz1, hz2⟩ := info_parts Tryd.info5
  have hle := enc_le (s.size : Int) (by omega) (by omega)
  have hsz : s.data.toList.length = s.size := by rw [Array.length_toList]; rfl
  have HSZ := hideIt hsz
  clear hsz
  go_enter Tryd.func55, Tryd.ntmps55
  go_wp2_with (first
    | (go_at_call 63; refine (int_any _ _ (by omega) (by omega)).mono ?_; rintro e w1 ⟨v1, rfl, hown, hbl⟩; have HO := hideIt hown; have HB := hideIt hbl; clear hown hbl)
    | (at_builtin; refine Lib.wpList_append_own_string _ rfl _ _ 22 9 rfl w.heap.size 5 i0 Tryd.underlying22 Tryd.underlying9 hi hz0 hz1 hz2 v1 (enc (s.size : Int)).length ((enc (s.size : Int)).map bv) rfl HO.out s rfl (by unfold maxLen; omega) (by omega) HB.out.size ?_; intro v2 w2 hown2 hg2 _))
  go_ret
  refine ⟨v2, rfl, ?_, below_grown HB.out HO.out (Nat.le_refl _) HB.out.size hg2⟩
  unfold encB
  rw [HSZ.out, List.length_append, HSZ.out, List.map_append]
  exact hown2

end Go.Proofs.YtkjnimcapjjfdaaDoor
