/-
  The walk of the law: Extending the checksum of the empty string by the parts of a string, one after the other, gives the checksum of the string.
-/
import Derived.Test.YtdnbnbnfbfdflaaDoorCrcS
import Derived.Test.YtdnbnbnfbfdflaaDoorCrcQ
import Derived.Test.YtdnbnbnfbfdflaaDoorArgC
namespace Go.Proofs.YtdnbnbnfbfdflaaDoor.crcParts
open Go.RowKit
set_option linter.unusedVariables false
attribute [local go_sem] eqGuard_wv binOp_add_wv binOp_and_wv binOp_or_wv binOp_xor_wv binOp_shr_wv binOp_shl_wv unary_xor_wv run_convert_wv run_store_wv run_storeCells_wv run_convert_bw

theorem eq_self_c (t : TypeId) (x : UInt32) : binOp .eql t (wv x) (wv x) = pure (.bool true) := by
  unfold wv
  rw [binOp_eql]
  simp
attribute [local go_sem] eq_self_c
theorem take_len (ls : List (List UInt8)) : ∀ k, (ls.take k).flatten.length ≤ sumLen ls := by
  induction ls with
  | nil => intro k; simp [sumLen]
  | cons l r ih =>
    intro k
    cases k with
    | zero => simp
    | succ k =>
      have := ih k
      simp only [List.take_succ_cons, List.flatten_cons, List.length_append, sumLen, List.map_cons, List.sum_cons] at this ⊢
      omega
theorem take_flat (ls : List (List UInt8)) (k : Nat) (hk : k < ls.length) : (ls.take (k + 1)).flatten = (ls.take k).flatten ++ ls[k] := by
  rw [List.take_add_one, List.getElem?_eq_getElem hk, List.flatten_append]
  simp

set_option maxHeartbeats 1000000 in
set_option maxRecDepth 100000 in
theorem walk (A0 : Option Addr) (c0 : Nat) (l0 : List (List UInt8)) (w : World) (x0 : RowsAt w w.heap.size A0 l0) (m0 : l0.length ≤ c0) (k0 : c0 ≤ maxLen) (s0 : l0.length ≤ 1048576) (t0 : sumLen l0 ≤ 1048576) (T1 : Tabs w) :
    Calls Tryd.prog 4 #[.slice A0 l0.length c0] w fun e w' => e = .returned (.bool true) ∧ Below w.heap.size w w' := by
  have HT := hideIt T1
  have X0 := hideIt x0
  have HL := hideIt (take_len l0)
  obtain ⟨i0, hi, hz0, hz1, hz2⟩ := info_parts (show (Tryd.prog.info? 5).map (fun i => (i.zero, i.size, i.bytes)) = some (some (Value.int .u8 0), 1, 1) by kernel_rfl)
  have HO := hideIt (of_any none 0 0 [] w (Sl.nil _ _ _ _) (by simp) HT.out)
  clear T1 x0
  go_enter Tryd.func4, Tryd.ntmps4
  go_wp2_with (go_at_call 11; refine HO.out.mono ?_; rintro e w' ⟨rfl, rfl⟩)
  go_loopg [3, 4, 5] l0.length (fun g s3 s4 s5 wr => ∃ (k : Nat) (z : UInt32) (A : Option Addr) (n c : Nat), g + k = l0.length ∧ s3 = wv z ∧ s4 = .slice A n c ∧ s5 = .int .i64 k ∧
    Aside (z = crc (l0.take k).flatten ∧ n = (l0.take k).flatten.length ∧ wr.ownsRow w.heap.size 5 1 (.slice A n c) n ((l0.take k).flatten.map bv) ∧ Below w.heap.size w wr))
  case atStart => exact ⟨0, _, none, 0, 0, rfl, rfl, rfl, rfl, rfl, rfl, World.ownsRow_nil _ _ _ _, Below.refl _ _⟩
  case round =>
    obtain ⟨k, z, A, n, c, hg, rfl, rfl, rfl, HA⟩ := hrel
    by_cases hk : k < l0.length
    · obtain ⟨b, off, Ai, ci, rfl, hbb, hcell, hsl⟩ := (X0.out.below HA.out.2.2.2).row hk
      have HSL := hideIt hsl
      have HE := hideIt (extend_any Ai w.heap.size ci z l0[k] wr hsl (by
        have h1 := HL.out (k + 1)
        rw [take_flat l0 k hk, List.length_append] at h1
        omega) (HT.out.keep HA.out.2.2.2))
      have HN : Hid ((l0.take k).flatten ++ l0[k] = (l0.take (k + 1)).flatten) := hideIt (take_flat l0 k hk).symm
      have HZ : Hid (ext z l0[k] = crc (l0.take (k + 1)).flatten) := by rw [HA.out.1, ext_crc, HN.out]; exact rfl
      have hn1 : n + l0[k].length ≤ 1048576 := by
        have h1 := HL.out (k + 1)
        rw [← HN.out, List.length_append, ← HA.out.2.1] at h1
        omega
      obtain ⟨P, hP⟩ : ∃ P, P = (l0.take k).flatten := ⟨_, rfl⟩
      rw [← hP] at HN HA
      have HP := hideIt hP
      generalize l0[k] = l at *
      generalize ext z l = z' at *
      have hki : (k : Int) < (l0.length : Int) := by omega
      clear hsl hP
      go_wp2_with (first
        | (go_at_call 13; refine HE.out.mono ?_; rintro e w' ⟨rfl, rfl⟩)
        | ((with_reducible refine at_append ?_); refine wpList_app rfl (.tmp 19) (.tmp 23) 22 rfl w.heap.size 5 i0 (.int .u8 0) 1 1 Tryd.underlying22 hi hz0 hz1 hz2 rfl (by decide) _ n (P.map bv) rfl HA.out.2.2.1 _ _ l.length _ (l.map bv) rfl HSL.out (bv_one _) (by unfold maxLen; omega) (by omega) HA.out.2.2.2.size ?_; intro v2 w2 ho2 hb2; have HO2 := own_is (n' := n + l.length) (xs' := (l0.take (k + 1)).flatten.map bv) ho2 rfl (by rw [← HN.out, List.map_append]); clear ho2; obtain ⟨A3, c3, rfl, q3, q4⟩ := own_form HO2.out; have HB2 := hideIt (HA.out.2.2.2.trans hb2); clear hb2))
      go_roundg (gk - 1)
      case measure => omega
      case rel => exact ⟨k + 1, z', A3, n + l.length, c3, by omega, rfl, rfl, by go_num, HZ.out, by rw [← HN.out, List.length_append, HA.out.2.1], HO2.out, HB2.out⟩
    · have hki : ¬ (k : Int) < (l0.length : Int) := by omega
      obtain ⟨P, hP⟩ : ∃ P, P = (l0.take k).flatten := ⟨_, rfl⟩
      have hPl : P.length ≤ 1048576 := by have := HL.out k; rw [hP]; omega
      rw [← hP] at HA
      have HS := hideIt (sanity_any wr (HT.out.keep HA.out.2.2.2))
      have hX := Sl.of_own HA.out.2.2.1
      rw [HA.out.2.1] at hX
      have HOF := hideIt (fun (W : World) (hb : Below wr.heap.size wr W) => of_any A wr.heap.size c P W (hX.below hb) (by omega) ((HT.out.keep HA.out.2.2.2).keep hb))
      rw [← HA.out.2.1, ← HA.out.1] at HOF
      clear hX hP
      go_wp2_with (first
        | (go_at_call 10; refine HS.out.mono ?_; rintro e w3 ⟨rfl, hb⟩; have HB3 := hideIt hb; clear hb)
        | (go_at_call 11; refine (HOF.out _ HB3.out).mono ?_; rintro e w' ⟨rfl, rfl⟩))
      go_ret
      exact ⟨rfl, HA.out.2.2.2.trans (HB3.out.mono HA.out.2.2.2.size)⟩

end Go.Proofs.YtdnbnbnfbfdflaaDoor.crcParts
