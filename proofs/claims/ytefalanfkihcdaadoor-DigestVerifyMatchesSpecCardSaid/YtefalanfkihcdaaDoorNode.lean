/-
  The inputs and digests of nodes and leaves, walked: digest.leafMessage, nodeMessage, Of.
-/
import Derived.Test.YtefalanfkihcdaaDoorMsg
namespace Go.Proofs.YtefalanfkihcdaaDoor
open Go.RowKit
set_option linter.unusedVariables false

theorem leaf_is (d : List UInt8) : msgS (tagB 1) [str d] = leafIn d := rfl
theorem node_is (x y : List UInt8) : msgS (tagB 2) [str x, str y] = nodeIn x y := rfl
theorem str_size (d : List UInt8) : (str d).size = d.length := by simp [str, ByteArray.size]
/-- A new block of a digest, as a slice of all. -/
theorem dig_sl {w : World} {g : Nat} {t : TypeId} {d : List UInt8} (h : Blk w g t (d.map bv)) : Sl w w.heap.size (some ⟨g, 0, none⟩) 1 d.length (d.map bv) := blk_sl h (by rw [List.length_map])

theorem sl_two (w : World) (t : TypeId) (u v : Value) : Sl (w.alloc (.cells #[u, v] t)) (w.heap.size + 1) (some ⟨w.heap.size, 0, none⟩) 1 2 [u, v] :=
  ⟨rfl, fun _ => ⟨w.heap.size, 0, rfl, Nat.lt_succ_self _, fun j x hj => by rw [show (w.alloc (.cells #[u, v] t)).cell? ⟨w.heap.size, 0 + j, none⟩ = [u, v][0 + j]? from (Blk.new w t [u, v]).cell _, Nat.zero_add]; exact hj⟩⟩

set_option maxHeartbeats 400000 in
set_option maxRecDepth 100000 in
theorem leafMessage_any (d : List UInt8) (hd : d.length = 16) (w : World) :
    Calls Tryd.prog 43 #[dv d] w fun e w' =>
      ∃ v', e = .returned v' ∧ w'.ownsRow w.heap.size 5 1 v' (leafIn d).length ((leafIn d).map bv) ∧ Below w.heap.size w w' := by
  have HD := hideIt hd
  have hsl := arr16_all
  have hcv : (convert 22 9 (.slice (some ⟨w.heap.size, 0, none⟩) 16 16)).run Tryd.prog (w.alloc (.cells (d.map bv).toArray 30)) = .ok (.string (str d)) (w.alloc (.cells (d.map bv).toArray 30)) := by
    have := conv_bytes (P := Tryd.prog) (T := 22) (S := 9) (e := 5) Tryd.underlying22 Tryd.underlying5 Tryd.underlying9 (c := 16) (dig_sl (Blk.new w 30 (d.map bv)))
    rw [hd] at this
    exact this
  have HM : Hid (∀ W A B c, Sl W B A 1 1 [Value.string (str d)] → B ≤ W.heap.size → Calls Tryd.prog 36 #[.int .i64 1, .slice A 1 c] W fun e w' =>
      ∃ v', e = .returned v' ∧ w'.ownsRow W.heap.size 5 1 v' (leafIn d).length ((leafIn d).map bv) ∧ Below W.heap.size W w') := fun W A B c h hB =>
    message_any A B c 1 [str d] W h (by simp) (fun s hs => by rw [List.mem_singleton] at hs; subst hs; rw [str_size, hd]; omega) hB
  clear hd
  go_enter Tryd.func43, Tryd.ntmps43
  go_wp2_with (go_at_call 36; refine (HM.out _ _ _ _ (by have := sl_one (w.alloc (.cells (d.map bv).toArray 30)) 9 (.string (str d)); simpa using this) (by simp)).mono ?_; rintro e w1 ⟨v1, rfl, hown, hb1⟩; have HO := hideIt hown; have HB := hideIt hb1; clear hown hb1)
  go_ret
  exact ⟨_, rfl, own_low HO.out (by simp; omega), ((below_new w _).trans ((below_new _ _).mono (by simp))).trans (HB.out.mono (by simp; omega))⟩

set_option maxHeartbeats 400000 in
set_option maxRecDepth 100000 in
theorem nodeMessage_any (x y : List UInt8) (hx : x.length = 16) (hy : y.length = 16) (w : World) :
    Calls Tryd.prog 45 #[dv x, dv y] w fun e w' =>
      ∃ v', e = .returned v' ∧ w'.ownsRow w.heap.size 5 1 v' (nodeIn x y).length ((nodeIn x y).map bv) ∧ Below w.heap.size w w' := by
  have hsl := arr16_all
  have hcx : ∀ W : World, Blk W w.heap.size 30 (x.map bv) → (convert 22 9 (.slice (some ⟨w.heap.size, 0, none⟩) 16 16)).run Tryd.prog W = .ok (.string (str x)) W := fun W hW => by
    have := conv_bytes (P := Tryd.prog) (T := 22) (S := 9) (e := 5) Tryd.underlying22 Tryd.underlying5 Tryd.underlying9 (c := 16) (dig_sl hW)
    rw [hx] at this
    exact this
  have hcy : ∀ W : World, Blk W (w.heap.size + 1) 30 (y.map bv) → (convert 22 9 (.slice (some ⟨w.heap.size + 1, 0, none⟩) 16 16)).run Tryd.prog W = .ok (.string (str y)) W := fun W hW => by
    have := conv_bytes (P := Tryd.prog) (T := 22) (S := 9) (e := 5) Tryd.underlying22 Tryd.underlying5 Tryd.underlying9 (c := 16) (dig_sl hW)
    rw [hy] at this
    exact this
  have HCX := hideIt hcx
  have HCY := hideIt hcy
  have HM : Hid (∀ W A B c, Sl W B A 1 2 [Value.string (str x), .string (str y)] → B ≤ W.heap.size → Calls Tryd.prog 36 #[.int .i64 2, .slice A 2 c] W fun e w' =>
      ∃ v', e = .returned v' ∧ w'.ownsRow W.heap.size 5 1 v' (nodeIn x y).length ((nodeIn x y).map bv) ∧ Below W.heap.size W w') := fun W A B c h hB =>
    message_any A B c 2 [str x, str y] W h (by simp) (fun s hs => by
      simp only [List.mem_cons, List.mem_nil_iff, or_false] at hs
      rcases hs with rfl | rfl
      · rw [str_size, hx]; omega
      · rw [str_size, hy]; omega) hB
  clear hx hy hcx hcy
  go_enter Tryd.func45, Tryd.ntmps45
  go_wp2_with fail
  refine still_tail 4 (by kernel_rfl) (by kernel_rfl) ?_
  intro w2 hw2
  have HW2 := hideIt hw2
  have hX2 : Blk w2 w.heap.size 30 (x.map bv) := by rw [hw2]; exact (Blk.new w 30 (x.map bv)).alloc _
  have hY2 : Blk w2 (w.heap.size + 1) 30 (y.map bv) := by rw [hw2]; exact Blk.new2 w (.cells (x.map bv).toArray 30) 30 (y.map bv)
  have HB2 : Hid (Below w.heap.size w w2) := by rw [hw2]; exact (((below_new w _).trans ((below_new _ _).mono (by simp))).drew)
  have hsz2 : w2.heap.size = w.heap.size + 2 := by rw [hw2]; show ((w.alloc _).alloc _).heap.size = _; simp
  have HSZ := hideIt hsz2
  have h1 := HCX.out w2 hX2
  have h2 := HCY.out w2 hY2
  have HX2 := hideIt hX2
  have HY2 := hideIt hY2
  clear hw2 hX2 hY2 hsz2
  simp only [List.take_succ_cons, List.take_zero, List.drop_succ_cons, List.drop_zero]
  repeat still_step
  refine wpStill_nil ?_
  go_wp2_with (go_at_call 36; refine (HM.out _ _ (w2.heap.size + 1) _ (sl_two w2 _ _ _) (by simp)).mono ?_; rintro e w3 ⟨v3, rfl, hown, hb3⟩; have HO := hideIt hown; have HB3 := hideIt hb3; clear hown hb3)
  go_ret
  have hsz := HSZ.out
  exact ⟨_, rfl, own_low HO.out (by simp; omega), (HB2.out.trans ((below_new w2 _).mono (by omega))).trans (HB3.out.mono (by simp; omega))⟩

end Go.Proofs.YtefalanfkihcdaaDoor
