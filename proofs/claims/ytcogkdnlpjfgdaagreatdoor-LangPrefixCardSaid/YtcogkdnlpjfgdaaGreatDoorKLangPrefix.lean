/-
  The walk of the law: No part of a printed text that ends ahead of its closing brace is a code (P7.7).
-/
import Derived.Test.YtcogkdnlpjfgdaaGreatDoorLwB
namespace Go.Proofs.YtcogkdnlpjfgdaaGreatDoor.langPrefix
open Go.RowKit
set_option linter.unusedVariables false

theorem ix_take : ∀ (T : Bs) (c : UInt8) (k : Nat), (k : Int) ≤ Lib.indexByte T c → k ≤ T.length ∧ c ∉ T.take k
  | [], c, k, h => by
    simp only [Lib.indexByte] at h
    omega
  | b :: l, c, k, h => by
    rw [Lib.indexByte] at h
    split at h
    · have : k = 0 := by omega
      subst this
      simp
    · rename_i hb
      split at h
      · omega
      · cases k with
        | zero => simp
        | succ j =>
          obtain ⟨h1, h2⟩ := ix_take l c j (by omega)
          refine ⟨by simp; omega, ?_⟩
          rw [List.take_succ_cons, List.mem_cons]
          rintro (h3 | h3)
          · exact hb (by rw [h3]; simp)
          · exact h2 h3
theorem print_zero {x : Cd} (hl : x.par.length ≤ 9223372036854775807) (h : (printX x).2 = 0) : Good x ∧ (printS x).length ≤ 2000 ∧ printX x = (printS x, 0) := by
  unfold printX at h ⊢
  by_cases h1 : checkX x ≠ 0
  · rw [if_pos h1] at h; exact absurd h h1
  · rw [if_neg h1] at h ⊢
    by_cases h2 : 2000 < (printS x).length
    · rw [if_pos h2] at h; exact absurd (show (2 : Int) = 0 from h) (by decide)
    · rw [if_neg h2]
      refine ⟨(checkC_good x).1 ((checkX_zero x (Nat.le_trans hl (by decide))).1 (Classical.not_not.1 h1)), by omega, rfl⟩
set_option maxHeartbeats 4000000 in
set_option maxRecDepth 100000 in
theorem walk (a0 : Cd) (A0 : Option Addr) (c0 : Nat) (a1 : Int) (w : World) (x0 : CIn w a0 A0) (n0 : a0.name.length ≤ 9223372036854775807) (w1 : -9223372036854775808 ≤ a1 ∧ a1 ≤ 9223372036854775807) (T1 : TabW w) :
    Calls Tryz.prog 9 #[cdV a0.name a0.field a0.data (.slice A0 a0.par.length c0) a0.dom, .int .i64 a1] w fun e w' => e = .returned (.bool true) ∧ Below w.heap.size w w' := by
  have HSA := hideIt (fun W (hW : Below w.heap.size w W) => sanity_any W (T1.keep hW))
  have HX0 := hideIt (BC.new c0 x0)
  have HB0 := hideIt (below_new w (.cells #[sv a0.name, .int .i64 a0.field, .int .i64 a0.data, .slice A0 a0.par.length c0, .int .i64 a0.dom] 24))
  have HPX := hideIt (fun (h : (printX a0).2 = 0) => print_zero x0.len h)
  have HPR := hideIt (fun A c W (hW : Below w.heap.size w W) (h : CIn W a0 A) => print_any a0 A c W h (T1.keep hW))
  obtain ⟨b, hb⟩ : ∃ b, b = (printX a0).2 := ⟨_, rfl⟩
  clear n0
  by_cases h0 : b = 0
  · obtain ⟨hg, hl, hp⟩ := HPX.out (hb ▸ h0)
    rw [hp] at HPR
    generalize printS a0 = T at *
    have HIX := hideIt (fun W => show Calls Tryz.prog 27 #[sv T, .int .u8 125] W (fun e w' => e = .returned (.int .i64 (Lib.indexByte T 125)) ∧ W = w') from index_any T 125 W)
    have HTK := hideIt (ix_take T 125)
    generalize Lib.indexByte T 125 = ix at *
    clear hb h0 hg hp HPX x0
    by_cases h1 : a1 < 0
    · clear HTK hl
      go_enter Tryz.func9, Tryz.ntmps9
      go_wp2_with (first
        | (go_at_call 11; refine (HPR.out _ _ _ HB0.out HX0.out.cin).mono ?_; rintro e w1 ⟨rfl, hb⟩; have HB1 := hideIt (ls7 HB0.out hb); clear hb HPR HX0 HB0)
        | (go_at_call 27; refine (HIX.out _).mono ?_; rintro e w' ⟨rfl, rfl⟩)
        | (go_at_call 13; refine (HSA.out _ HB1.out).mono ?_; rintro e w3 ⟨rfl, hb⟩; have HB3 := hideIt (ls7 HB1.out hb); clear hb HSA HB1))
      go_ret
      exact ⟨rfl, HB3.out⟩
    · by_cases h2 : ix < a1
      · clear HTK hl
        go_enter Tryz.func9, Tryz.ntmps9
        go_wp2_with (first
          | (go_at_call 11; refine (HPR.out _ _ _ HB0.out HX0.out.cin).mono ?_; rintro e w1 ⟨rfl, hb⟩; have HB1 := hideIt (ls7 HB0.out hb); clear hb HPR HX0 HB0)
          | (go_at_call 27; refine (HIX.out _).mono ?_; rintro e w' ⟨rfl, rfl⟩)
          | (go_at_call 13; refine (HSA.out _ HB1.out).mono ?_; rintro e w3 ⟨rfl, hb⟩; have HB3 := hideIt (ls7 HB1.out hb); clear hb HSA HB1))
        go_ret
        exact ⟨rfl, HB3.out⟩
      · obtain ⟨k, rfl⟩ : ∃ k : Nat, a1 = (k : Int) := ⟨a1.toNat, by omega⟩
        obtain ⟨hk, hm⟩ := HTK.out k (by omega)
        have hs := s_take Tryz.underlying9 T k hk
        obtain ⟨p1, p2, p3, p4⟩ := parse_open (t := T.take k) (by rw [List.length_take]; omega) hm
        rw [List.length_take] at p4
        have p5 : (parseC (T.take k)).2.1 ≤ (k : Int) := by omega
        have HP := hideIt (fun W => (parse_any (T.take k) W).mono (R' := fun e w' => (∃ A c, e = .returned (.tuple #[cdV [] 0 0 (.slice A 0 c) 0, .int .i64 (parseC (T.take k)).2.1, .int .i64 3]) ∧ CIn w' cd0 A) ∧ Below W.heap.size W w') (fun e w' h => ⟨by
          have h1 := code_out h.1
          rw [show fixC (parseC (T.take k)) = cd0 by unfold fixC; rw [if_neg (by rw [p2]; decide)], p2] at h1
          exact h1, h.2⟩))
        generalize (parseC (T.take k)).2.1 = off at *
        have HSM := hideIt (fun A c W (h : CIn W cd0 A) => show Calls Tryz.prog 17 #[cdV [] 0 0 (.slice A 0 c) 0, cdV [] 0 0 (.slice none 0 0) 0] W (fun e w' => e = .returned (.bool true) ∧ Below W.heap.size W w') by
          have h := rsame_any cd0 cd0 A none c 0 W h ⟨PM.nil _ _ _, by decide, fun l hl => by simp [cd0] at hl⟩
          rw [sameB_self] at h
          exact h)
        clear HTK hk hm p1 p2 p4 hl
        go_enter Tryz.func9, Tryz.ntmps9
        go_wp2_with (first
          | (go_at_call 11; refine (HPR.out _ _ _ HB0.out HX0.out.cin).mono ?_; rintro e w1 ⟨rfl, hb⟩; have HB1 := hideIt (ls7 HB0.out hb); clear hb HPR HX0 HB0)
          | (go_at_call 27; refine (HIX.out _).mono ?_; rintro e w' ⟨rfl, rfl⟩)
          | (go_at_call 18; refine (HP.out _).mono ?_; rintro e w2 ⟨⟨A2, c2, rfl, hc⟩, hb⟩; have HY2 := hideIt (BC.new c2 hc); have HB2 := hideIt (la7 (o := .cells #[sv cd0.name, .int .i64 cd0.field, .int .i64 cd0.data, .slice A2 cd0.par.length c2, .int .i64 cd0.dom] 24) (ls7 HB1.out hb)); clear hc hb HP HB1)
          | (go_at_call 13; refine (HSA.out _ HB2.out).mono ?_; rintro e w4 ⟨rfl, hb⟩; have HY4 := hideIt (HY2.out.keep hb); have HB4 := hideIt (ls7 HB2.out hb); have y0 := HY4.out.box.cell 0; have y1 := HY4.out.box.cell 1; have y2 := HY4.out.box.cell 2; have y3 := HY4.out.box.cell 3; have y4 := HY4.out.box.cell 4; clear hb HSA HY2 HB2)
          | (go_at_call 17; refine (HSM.out _ _ _ HY4.out.cin).mono ?_; rintro e w5 ⟨rfl, hb⟩; have HB5 := hideIt (ls7 HB4.out hb); clear hb HSM HY4 HB4 y0 y1 y2 y3 y4))
        go_ret
        exact ⟨rfl, HB5.out⟩
  · have en := i_neq 25 .i64 b 0
    rw [decide_eq_true h0] at en
    rw [← hb] at HPR
    generalize (printX a0).1 = T at *
    clear h0 hb HPX x0
    go_enter Tryz.func9, Tryz.ntmps9
    go_wp2_with (first
      | (go_at_call 11; refine (HPR.out _ _ _ HB0.out HX0.out.cin).mono ?_; rintro e w1 ⟨rfl, hb⟩; have HB1 := hideIt (ls7 HB0.out hb); clear hb HPR HX0 HB0)
      | (go_at_call 13; refine (HSA.out _ HB1.out).mono ?_; rintro e w3 ⟨rfl, hb⟩; have HB3 := hideIt (ls7 HB1.out hb); clear hb HSA HB1))
    go_ret
    exact ⟨rfl, HB3.out⟩

end Go.Proofs.YtcogkdnlpjfgdaaGreatDoor.langPrefix
