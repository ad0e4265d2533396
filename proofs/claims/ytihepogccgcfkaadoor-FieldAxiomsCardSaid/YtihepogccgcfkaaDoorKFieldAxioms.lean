/-
  The walk of the law: For m = 8 and m = 16 and all elements, addition and multiplication are associative and commutative, multiplication distributes over addition, 1 is neutral, and division is the inverse of multiplication.
-/
import Derived.Test.YtihepogccgcfkaaDoorFOk
namespace Go.Proofs.YtihepogccgcfkaaDoor.fieldAxioms
open Go.RowKit
set_option linter.unusedVariables false

set_option maxHeartbeats 1000000 in
set_option maxRecDepth 100000 in
theorem walk (a0 : Nat) (a1 : Nat) (a2 : Nat) (w : World) (w0 : a0 < 65536) (w1 : a1 < 65536) (w2 : a2 < 65536) (T1 : Tabs w) :
    Calls Tryd.prog 5 #[.int .u16 (a0 : Int), .int .u16 (a1 : Int), .int .u16 (a2 : Int)] w fun e w' => e = .returned (.bool true) ∧ Below w.heap.size w w' := by
  have HT := hideIt T1
  have HS0 := hideIt (sanity_any w T1)
  clear T1
  have w1' := w1
  clear w1
  go_enter Tryd.func5, Tryd.ntmps5
  go_wp2_with (go_at_call 9; refine HS0.out.mono ?_; rintro e w1 ⟨rfl, hb⟩; have HB := hideIt hb; clear hb HS0)
  go_loopg [8] 2 (fun g s8 wr => ∃ k : Nat, k + g = 2 ∧ s8 = .int .i64 (k : Int) ∧ Aside (Below w.heap.size w wr))
  case atStart => exact ⟨0, rfl, rfl, HB.out⟩
  case round =>
    clear HB
    obtain ⟨k, hk, rfl, HW⟩ := hrel
    by_cases hlt : k < 2
    · have HB := hideIt HW.out
      obtain ⟨m, hmk⟩ : ∃ m, m = 8 + 8 * k := ⟨_, rfl⟩
      have hm : Fm m := by unfold Fm; omega
      have hbig := fm_big hm
      have hqm := qm_pos hm
      have hmul : binOp .mul 3 (.int .i64 8) (.int .i64 (k : Int)) = pure (.int .i64 ((8 * k : Nat) : Int)) := nmul 3 8 k (by omega)
      have hadd : binOp .add 3 (.int .i64 8) (.int .i64 ((8 * k : Nat) : Int)) = pure (.int .i64 ((8 + 8 * k : Nat) : Int)) := nadd 3 8 (8 * k) (by omega)
      rw [← hmk] at hadd
      have hshl := nshl_one 3 m (fm_le hm)
      have hinc := inc_c 3 k (by omega)
      have hki : (k : Int) < 2 := by omega
      generalize 8 * k = k8 at *
      have hp : 0 < 2 ^ m := Nat.two_pow_pos m
      have cv0 := fun W => conv_u16 a0 w0 W
      have cv1 := fun W => conv_u16 a1 w1' W
      have cv2 := fun W => conv_u16 a2 w2 W
      have rm0 := nrem 3 a0 (2 ^ m) hp
      have rm1 := nrem 3 a1 (2 ^ m) hp
      have rm2 := nrem 3 a2 (2 ^ m) hp
      have hx := Nat.mod_lt a0 hp
      have hy := Nat.mod_lt a1 hp
      have hz := Nat.mod_lt a2 hp
      generalize a0 % 2 ^ m = x at *
      generalize a1 % 2 ^ m = y at *
      generalize a2 % 2 ^ m = z at *
      obtain ⟨xy, hxy⟩ : ∃ v, mul m x y = v := ⟨_, rfl⟩
      obtain ⟨yz, hyz⟩ : ∃ v, mul m y z = v := ⟨_, rfl⟩
      obtain ⟨l, hl⟩ : ∃ v, mul m xy z = v := ⟨_, rfl⟩
      obtain ⟨s, hs⟩ : ∃ v, y ^^^ z = v := ⟨_, rfl⟩
      obtain ⟨t, ht⟩ : ∃ v, mul m x s = v := ⟨_, rfl⟩
      obtain ⟨u, hu⟩ : ∃ v, mul m x z = v := ⟨_, rfl⟩
      have lxy : xy < 2 ^ m := by rw [← hxy]; exact mul_lt hm y hx
      have lyz : yz < 2 ^ m := by rw [← hyz]; exact mul_lt hm z hy
      have ls : s < 2 ^ m := by rw [← hs]; exact Nat.xor_lt_two_pow hy hz
      have lu : u < 2 ^ m := by rw [← hu]; exact mul_lt hm z hx
      have c1 := hideIt (mulN HT.out hm hx hy xy hxy)
      have c2 := hideIt (mulN HT.out hm hy hx xy (by rw [mul_comm hm hy hx, hxy]))
      have c3 := hideIt (mulN HT.out hm hy hz yz hyz)
      have c4 := hideIt (mulN HT.out hm lxy hz l hl)
      have c5 := hideIt (mulN HT.out hm hx lyz l (by rw [← hyz, ← mul_assoc hm hx hy hz, hxy, hl]))
      have c6 := hideIt (addN HT.out hm hy hz s hs)
      have c7 := hideIt (mulN HT.out hm hx ls t ht)
      have c8 := hideIt (mulN HT.out hm hx hz u hu)
      have c9 := hideIt (addN HT.out hm lxy lu t (by rw [← ht, ← hs, mulR, hxy, hu]))
      have c10 : Hid (∀ W, Below w.heap.size w W → Calls Tryd.prog 12 #[.int .i64 (m : Int), .int .i64 (x : Int), .int .i64 1] W fun e w' => e = .returned (.tuple #[.int .i64 (x : Int), .int .i64 0]) ∧ Below w.heap.size w w') := hideIt (mulN HT.out hm hx (fm_one hm) x (mul_oneR hm x))
      have c11 : Hid (∀ W, Below w.heap.size w W → Calls Tryd.prog 10 #[.int .i64 (m : Int), .int .i64 (x : Int), .int .i64 (x : Int)] W fun e w' => e = .returned (.tuple #[.int .i64 0, .int .i64 0]) ∧ Below w.heap.size w w') := hideIt (addN HT.out hm hx hx 0 (xs x))
      have d0 : y = 0 → Hid (∀ W, Below w.heap.size w W → Calls Tryd.prog 16 #[.int .i64 (m : Int), .int .i64 (xy : Int), .int .i64 (y : Int)] W fun e w' => e = .returned (.tuple #[.int .i64 0, .int .i64 12]) ∧ Below w.heap.size w w') := fun h => hideIt (divZ HT.out hm lxy h)
      have d1 : y ≠ 0 → Hid (∀ W, Below w.heap.size w W → Calls Tryd.prog 16 #[.int .i64 (m : Int), .int .i64 (xy : Int), .int .i64 (y : Int)] W fun e w' => e = .returned (.tuple #[.int .i64 (x : Int), .int .i64 0]) ∧ Below w.heap.size w w') := fun h => hideIt (divN HT.out hm lxy hy h x (by rw [← hxy]; exact mul_back hm hy hx h))
      have n1 := neqF 3 xy
      have n2 := neqF 3 l
      have n3 := neqF 3 t
      have n4 := neqF 3 x
      clear hxy hyz hl hs ht hu lxy lyz ls lu hx hy hz hm hbig hqm hp hmk hlt HT w0 w1' w2
      generalize 2 ^ m = q at *
      by_cases h0 : y = 0
      · have c12 := d0 h0
        have e1 := int_eqlT 3 (a := (y : Int)) (b := 0) (by omega)
        have e2 := int_neqF 3 (a := (y : Int)) (b := 0) (by omega)
        clear d0 d1 h0
        go_wp2_with (first
          | (go_at_call 12; refine (c1.out _ HB.out).mono ?_; rintro e w' ⟨rfl, hb⟩; clear HB c1; have HB := hideIt hb; clear hb)
          | (go_at_call 12; refine (c2.out _ HB.out).mono ?_; rintro e w' ⟨rfl, hb⟩; clear HB c2; have HB := hideIt hb; clear hb)
          | (go_at_call 12; refine (c3.out _ HB.out).mono ?_; rintro e w' ⟨rfl, hb⟩; clear HB c3; have HB := hideIt hb; clear hb)
          | (go_at_call 12; refine (c4.out _ HB.out).mono ?_; rintro e w' ⟨rfl, hb⟩; clear HB c4; have HB := hideIt hb; clear hb)
          | (go_at_call 12; refine (c5.out _ HB.out).mono ?_; rintro e w' ⟨rfl, hb⟩; clear HB c5; have HB := hideIt hb; clear hb)
          | (go_at_call 10; refine (c6.out _ HB.out).mono ?_; rintro e w' ⟨rfl, hb⟩; clear HB c6; have HB := hideIt hb; clear hb)
          | (go_at_call 12; refine (c7.out _ HB.out).mono ?_; rintro e w' ⟨rfl, hb⟩; clear HB c7; have HB := hideIt hb; clear hb)
          | (go_at_call 12; refine (c8.out _ HB.out).mono ?_; rintro e w' ⟨rfl, hb⟩; clear HB c8; have HB := hideIt hb; clear hb)
          | (go_at_call 10; refine (c9.out _ HB.out).mono ?_; rintro e w' ⟨rfl, hb⟩; clear HB c9; have HB := hideIt hb; clear hb)
          | (go_at_call 12; refine (c10.out _ HB.out).mono ?_; rintro e w' ⟨rfl, hb⟩; clear HB c10; have HB := hideIt hb; clear hb)
          | (go_at_call 10; refine (c11.out _ HB.out).mono ?_; rintro e w' ⟨rfl, hb⟩; clear HB c11; have HB := hideIt hb; clear hb)
          | (go_at_call 16; refine (c12.out _ HB.out).mono ?_; rintro e w' ⟨rfl, hb⟩; clear HB c12; have HB := hideIt hb; clear hb))
        go_roundg (gk - 1)
        case measure => omega
        case rel => exact ⟨k + 1, by omega, by go_num, HB.out⟩
      · have c12 := d1 h0
        have e1 := int_eqlF 3 (a := (y : Int)) (b := 0) (by omega)
        have e2 := int_neqT 3 (a := (y : Int)) (b := 0) (by omega)
        clear d0 d1 h0
        go_wp2_with (first
          | (go_at_call 12; refine (c1.out _ HB.out).mono ?_; rintro e w' ⟨rfl, hb⟩; clear HB c1; have HB := hideIt hb; clear hb)
          | (go_at_call 12; refine (c2.out _ HB.out).mono ?_; rintro e w' ⟨rfl, hb⟩; clear HB c2; have HB := hideIt hb; clear hb)
          | (go_at_call 12; refine (c3.out _ HB.out).mono ?_; rintro e w' ⟨rfl, hb⟩; clear HB c3; have HB := hideIt hb; clear hb)
          | (go_at_call 12; refine (c4.out _ HB.out).mono ?_; rintro e w' ⟨rfl, hb⟩; clear HB c4; have HB := hideIt hb; clear hb)
          | (go_at_call 12; refine (c5.out _ HB.out).mono ?_; rintro e w' ⟨rfl, hb⟩; clear HB c5; have HB := hideIt hb; clear hb)
          | (go_at_call 10; refine (c6.out _ HB.out).mono ?_; rintro e w' ⟨rfl, hb⟩; clear HB c6; have HB := hideIt hb; clear hb)
          | (go_at_call 12; refine (c7.out _ HB.out).mono ?_; rintro e w' ⟨rfl, hb⟩; clear HB c7; have HB := hideIt hb; clear hb)
          | (go_at_call 12; refine (c8.out _ HB.out).mono ?_; rintro e w' ⟨rfl, hb⟩; clear HB c8; have HB := hideIt hb; clear hb)
          | (go_at_call 10; refine (c9.out _ HB.out).mono ?_; rintro e w' ⟨rfl, hb⟩; clear HB c9; have HB := hideIt hb; clear hb)
          | (go_at_call 12; refine (c10.out _ HB.out).mono ?_; rintro e w' ⟨rfl, hb⟩; clear HB c10; have HB := hideIt hb; clear hb)
          | (go_at_call 10; refine (c11.out _ HB.out).mono ?_; rintro e w' ⟨rfl, hb⟩; clear HB c11; have HB := hideIt hb; clear hb)
          | (go_at_call 16; refine (c12.out _ HB.out).mono ?_; rintro e w' ⟨rfl, hb⟩; clear HB c12; have HB := hideIt hb; clear hb))
        go_roundg (gk - 1)
        case measure => omega
        case rel => exact ⟨k + 1, by omega, by go_num, HB.out⟩
    · have hki : ¬ (k : Int) < 2 := by omega
      clear hlt
      go_wp2_with fail
      go_ret
      exact ⟨rfl, HW.out⟩

end Go.Proofs.YtihepogccgcfkaaDoor.fieldAxioms
