/-
  The encoding of an integer, walked: wire.appendInt and wire.Int.
-/
import Derived.Test.YtkjnimcapjjfdaaDoorRows
import Derived.Test.YtkjnimcapjjfdaaDoorLib
import Derived.Test.YtkjnimcapjjfdaaDoorEnc
import Derived.Deep.LoopGhost
namespace Go.Proofs.YtkjnimcapjjfdaaDoor
open Go.RowKit
set_option linter.unusedVariables false

theorem Tryd.info5 : (Tryd.prog.info? 5).map (fun i => (i.zero, i.size, i.bytes)) = some (some (.int .u8 0), 1, 1) := by kernel_rfl

theorem rep_at (z : Value) (j : Nat) (l : List Value) : (List.replicate (j + 1) z ++ l)[j]? = some z := by
  rw [List.getElem?_append_left (by simp)]; simp

theorem arr9_from (j : Nat) (hj : j < 9) (b : Nat) (W : World) :
    (Instr.sliceAt 96 (.pointer (some ⟨b, 0, none⟩)) (some (.int .i64 (j : Int))) none none).run Tryd.prog W = .ok (.slice (some ⟨b, j, none⟩) (9 - j) (9 - j)) W := by
  have hl : Tryd.prog.arrayLen 96 = 9 := by kernel_rfl
  have hs : (sizeOf (Tryd.prog.elem 96)).run Tryd.prog W = .ok 1 W := by kernel_rfl
  rw [run_sliceAt_array_l W 96 ⟨b, 0, none⟩ (by kernel_rfl) .i64 j (by omega) (by rw [hl]; omega), hs, hl]
  simp only [Result.andThen, slicedAt, Int.toNat_natCast, if_neg (show ¬ 9 = j by omega), addr_add, Nat.mul_one, Nat.zero_add]

theorem set_at (z u : Value) (j : Nat) (l : List Value) : (List.replicate (j + 1) z ++ l).set j u = List.replicate j z ++ u :: l := by
  rw [List.set_append_left _ _ (by simp), List.replicate_succ', List.set_append_right _ _ (by simp)]
  simp

theorem lead_neg (n : Int) (k : Nat) (h : n < 0) (hk : k ≤ 8) : (.int .u8 (127 - (k : Int)) : Value) = bv (lead n k) := by
  unfold bv lead
  rw [if_pos h]
  congr 1
  rw [UInt8.toNat_ofNat']
  omega
theorem lead_pos (n : Int) (k : Nat) (h : ¬ n < 0) (hk : k ≤ 8) : (.int .u8 (128 + (k : Int)) : Value) = bv (lead n k) := by
  unfold bv lead
  rw [if_neg h]
  congr 1
  rw [UInt8.toNat_ofNat']
  omega
theorem flip_neg (n : Int) (m : Nat) (h : n < 0) : (.int .u8 (255 - (m : Int) % 256) : Value) = bv (flip n (UInt8.ofNat (m % 256))) := by
  unfold bv flip
  rw [if_pos h]
  congr 1
  rw [UInt8.toNat_sub_of_le _ _ (by rw [UInt8.le_iff_toNat_le, UInt8.toNat_ofNat']; simp; omega), UInt8.toNat_ofNat']
  simp
  omega
theorem flip_pos (n : Int) (m : Nat) (h : ¬ n < 0) : (.int .u8 ((m : Int) % 256) : Value) = bv (flip n (UInt8.ofNat (m % 256))) := by
  unfold bv flip
  rw [if_neg h]
  congr 1
  rw [UInt8.toNat_ofNat']
  omega

/-- One digit: what the round does to its relation. -/
theorem digit_step {n : Int} {m k j : Nat} {acc : List UInt8} {w wr : World} (hm0 : m ≠ 0) (hk : k + j = 8)
    (H : acc.length = k ∧ m < 256 ^ j ∧ (be (mag n)).map (flip n) = (be m).map (flip n) ++ acc ∧
      Blk wr w.heap.size 96 (List.replicate (j + 1) (.int .u8 0) ++ acc.map bv) ∧ Below w.heap.size w wr) :
    ∃ j', j = j' + 1 ∧ m / 256 < 256 ^ j' ∧ (be (mag n)).map (flip n) = (be (m / 256)).map (flip n) ++ (flip n (UInt8.ofNat (m % 256)) :: acc) ∧
      Blk (wr.setCell ⟨w.heap.size, j, none⟩ (bv (flip n (UInt8.ofNat (m % 256))))) w.heap.size 96
        (List.replicate (j' + 1) (.int .u8 0) ++ (flip n (UInt8.ofNat (m % 256)) :: acc).map bv) ∧
      Below w.heap.size w (wr.setCell ⟨w.heap.size, j, none⟩ (bv (flip n (UInt8.ofNat (m % 256))))) := by
  obtain ⟨h1, h2, h3, h4, h5⟩ := H
  have hj : 0 < j := by
    rcases Nat.eq_zero_or_pos j with rfl | h
    · simp at h2; omega
    · exact h
  obtain ⟨j', rfl⟩ : ∃ j', j = j' + 1 := ⟨j - 1, by omega⟩
  have hm9 : m < 256 ^ 9 := Nat.lt_of_lt_of_le h2 (Nat.pow_le_pow_right (by omega) (by omega))
  refine ⟨j', rfl, by rw [Nat.pow_succ] at h2; omega, ?_, ?_, h5.setCell (Nat.le_refl _) _⟩
  · rw [h3, be_step m hm0 hm9]; simp
  · have := h4.store (j' + 1) (bv (flip n (UInt8.ofNat (m % 256))))
    rw [set_at] at this
    exact this

/-- The first byte: what is behind the loop. -/
theorem lead_step {n : Int} {k j : Nat} {acc : List UInt8} {w wr : World} (hk : k + j = 8)
    (H : acc.length = k ∧ 0 < 256 ^ j ∧ (be (mag n)).map (flip n) = (be 0).map (flip n) ++ acc ∧
      Blk wr w.heap.size 96 (List.replicate (j + 1) (.int .u8 0) ++ acc.map bv) ∧ Below w.heap.size w wr) :
    (enc n).length = 9 - j ∧ (∀ i u, ((enc n).map bv)[i]? = some u → (wr.setCell ⟨w.heap.size, j, none⟩ (bv (lead n k))).cell? ((⟨w.heap.size, j, none⟩ : Addr).add i) = some u) ∧
      Below w.heap.size w (wr.setCell ⟨w.heap.size, j, none⟩ (bv (lead n k))) := by
  obtain ⟨h1, h2, h3, h4, h5⟩ := H
  rw [be_zero] at h3
  simp only [List.map_nil, List.nil_append] at h3
  have hl : (be (mag n)).length = k := by rw [← h1, ← h3, List.length_map]
  have he : enc n = lead n k :: acc := by unfold enc; rw [hl, h3]
  refine ⟨by rw [enc_len, hl]; omega, fun i u hu => ?_, h5.setCell (Nat.le_refl _) _⟩
  rw [addr_add, (h4.store j (bv (lead n k))).cell, set_at, List.getElem?_append_right (by simp)]
  rw [he] at hu
  simpa using hu

set_option maxHeartbeats 400000 in
set_option maxRecDepth 100000 in
theorem appendInt_any (B : Nat) (v : Value) (l : List UInt8) (n : Int) (w : World) (hn : -9223372036854775808 ≤ n) (hn' : n ≤ 9223372036854775807)
    (hl : l.length ≤ 1000000000) (hB : B ≤ w.heap.size) (hown : w.ownsRow B 5 1 v l.length (l.map bv)) :
    Calls Tryd.prog 67 #[v, .int .i64 n] w fun e w' =>
      ∃ v', e = .returned v' ∧ w'.ownsRow B 5 1 v' (l ++ enc n).length ((l ++ enc n).map bv) ∧ Below B w w' := by
  obtain ⟨i0, hi, hz0, hz1, hz2⟩ := info_parts Tryd.info5
  have hlt := mag_lt n hn hn'
  by_cases h0 : n < 0
  · have hmag : (.int .i64 (-1 - n) : Value) = .int .i64 (mag n) := by unfold mag; rw [if_pos h0]; congr 1; omega
    have Hmag := hideIt hmag
    clear hmag
    go_enter Tryd.func67, Tryd.ntmps67
    go_wp2
    go_step3
    go_wp2
    go_step3
    go_wp2
    go_loopg [5, 7, 8] 9 (fun g s5 s7 s8 wr => ∃ (k j m : Nat) (acc : List UInt8), g + k = 9 ∧ k + j = 8 ∧ s5 = .int .i64 m ∧ s7 = .int .i64 j ∧ s8 = .int .i64 k ∧ m < 9223372036854775808 ∧
      Aside (acc.length = k ∧ m < 256 ^ j ∧ (be (mag n)).map (flip n) = (be m).map (flip n) ++ acc ∧ Blk wr w.heap.size 96 (List.replicate (j + 1) (.int .u8 0) ++ acc.map bv) ∧ Below w.heap.size w wr))
    case atStart => exact ⟨0, 8, mag n, [], rfl, rfl, Hmag.out, rfl, rfl, hlt, rfl, Nat.lt_trans hlt (by decide), by simp, Blk.new w _ _, (Below.refl _ _).alloc (Nat.le_refl _) _⟩
    case round =>
      obtain ⟨k, j, m, acc, hg, hk, rfl, rfl, rfl, hm, HA⟩ := hrel
      have hc : wr.cell? ⟨w.heap.size, j, none⟩ = some (.int .u8 0) := by
        rw [HA.out.2.2.2.1.cell]; exact rep_at _ _ _
      have hf : wr.frozen? ⟨w.heap.size, j, none⟩ = false := HA.out.2.2.2.1.free j
      by_cases hm0 : m = 0
      · subst hm0
        have hsl := fun W => arr9_from j (by omega) w.heap.size W
        obtain ⟨q1, q2, q3⟩ := lead_step (n := n) hk HA.out
        rw [← lead_neg n k (by omega) (by omega)] at q2 q3
        have Q2 := hideIt q2
        have Q3 := hideIt q3
        clear q2 q3
        go_wp2_with (at_builtin; refine wpList_append_own _ rfl _ _ 22 rfl B 5 i0 (.int .u8 0) 1 1 Tryd.underlying22 hi hz0 hz1 hz2 rfl (by decide) v l.length (l.map bv) rfl (own_kept hown Q3.out) ⟨w.heap.size, j, none⟩ (9 - j) (9 - j) ((enc n).map bv) rfl (by rw [List.length_map, q1, Nat.mul_one]) Q2.out (bv_one _) (by unfold maxLen; omega) (by omega) (Nat.le_trans hB Q3.out.size) ?_; intro v' w' hown' hgrow _)
        rw [Exit.noGoto_ret]
        go_ret
        refine ⟨v', rfl, ?_, below_grown (Q3.out.mono hB) (own_kept hown Q3.out) (Nat.le_refl _) (Nat.le_trans hB Q3.out.size) hgrow⟩
        rw [List.length_append, List.map_append, q1]
        exact hown'
      · go_wp2
        go_roundg (gk - 1)
        case measure => omega
        case rel =>
          obtain ⟨j', rfl, b1, b2, b3, b4⟩ := digit_step hm0 hk HA.out
          have hl := HA.out.1
          rw [flip_neg n m (by omega)]
          exact ⟨k + 1, j', m / 256, _ :: acc, by omega, by omega, by go_num, by go_num, by go_num, by omega, by simp [hl], b1, b2, b3, b4⟩
  · have hmag : (.int .i64 n : Value) = .int .i64 (mag n) := by unfold mag; rw [if_neg h0]; congr 1; omega
    have Hmag := hideIt hmag
    clear hmag
    go_enter Tryd.func67, Tryd.ntmps67
    go_wp2
    go_step3
    go_wp2
    go_step3
    go_wp2
    go_loopg [5, 7, 8] 9 (fun g s5 s7 s8 wr => ∃ (k j m : Nat) (acc : List UInt8), g + k = 9 ∧ k + j = 8 ∧ s5 = .int .i64 m ∧ s7 = .int .i64 j ∧ s8 = .int .i64 k ∧ m < 9223372036854775808 ∧
      Aside (acc.length = k ∧ m < 256 ^ j ∧ (be (mag n)).map (flip n) = (be m).map (flip n) ++ acc ∧ Blk wr w.heap.size 96 (List.replicate (j + 1) (.int .u8 0) ++ acc.map bv) ∧ Below w.heap.size w wr))
    case atStart => exact ⟨0, 8, mag n, [], rfl, rfl, Hmag.out, rfl, rfl, hlt, rfl, Nat.lt_trans hlt (by decide), by simp, Blk.new w _ _, (Below.refl _ _).alloc (Nat.le_refl _) _⟩
    case round =>
      obtain ⟨k, j, m, acc, hg, hk, rfl, rfl, rfl, hm, HA⟩ := hrel
      have hc : wr.cell? ⟨w.heap.size, j, none⟩ = some (.int .u8 0) := by
        rw [HA.out.2.2.2.1.cell]; exact rep_at _ _ _
      have hf : wr.frozen? ⟨w.heap.size, j, none⟩ = false := HA.out.2.2.2.1.free j
      by_cases hm0 : m = 0
      · subst hm0
        have hsl := fun W => arr9_from j (by omega) w.heap.size W
        obtain ⟨q1, q2, q3⟩ := lead_step (n := n) hk HA.out
        rw [← lead_pos n k (by omega) (by omega)] at q2 q3
        have Q2 := hideIt q2
        have Q3 := hideIt q3
        clear q2 q3
        go_wp2_with (at_builtin; refine wpList_append_own _ rfl _ _ 22 rfl B 5 i0 (.int .u8 0) 1 1 Tryd.underlying22 hi hz0 hz1 hz2 rfl (by decide) v l.length (l.map bv) rfl (own_kept hown Q3.out) ⟨w.heap.size, j, none⟩ (9 - j) (9 - j) ((enc n).map bv) rfl (by rw [List.length_map, q1, Nat.mul_one]) Q2.out (bv_one _) (by unfold maxLen; omega) (by omega) (Nat.le_trans hB Q3.out.size) ?_; intro v' w' hown' hgrow _)
        rw [Exit.noGoto_ret]
        go_ret
        refine ⟨v', rfl, ?_, below_grown (Q3.out.mono hB) (own_kept hown Q3.out) (Nat.le_refl _) (Nat.le_trans hB Q3.out.size) hgrow⟩
        rw [List.length_append, List.map_append, q1]
        exact hown'
      · go_wp2
        go_roundg (gk - 1)
        case measure => omega
        case rel =>
          obtain ⟨j', rfl, b1, b2, b3, b4⟩ := digit_step hm0 hk HA.out
          have hl := HA.out.1
          rw [flip_pos n m (by omega)]
          exact ⟨k + 1, j', m / 256, _ :: acc, by omega, by omega, by go_num, by go_num, by go_num, by omega, by simp [hl], b1, b2, b3, b4⟩

set_option maxHeartbeats 400000 in
theorem int_any (n : Int) (w : World) (hn : -9223372036854775808 ≤ n) (hn' : n ≤ 9223372036854775807) :
    Calls Tryd.prog 63 #[.int .i64 n] w fun e w' =>
      ∃ v', e = .returned v' ∧ w'.ownsRow w.heap.size 5 1 v' (enc n).length ((enc n).map bv) ∧ Below w.heap.size w w' := by
  go_enter Tryd.func63, Tryd.ntmps63
  go_wp2_with (go_at_call 67; refine (appendInt_any w.heap.size _ [] n _ hn hn' (by simp) (Nat.le_refl _) (World.ownsRow_nil _ _ _ _)).mono ?_; rintro e w' ⟨v', rfl, h1, h2⟩)
  go_ret
  exact ⟨v', rfl, h1, h2⟩

end Go.Proofs.YtkjnimcapjjfdaaDoor
