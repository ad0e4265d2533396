/-
  The walk of the law: What Parse accepts is valid, and what Print gives of it is read as the same code and printed the same (P7.6).
-/
import Derived.Test.YtcogkdnlpjfgdaaGreatDoorLwB
namespace Go.Proofs.YtcogkdnlpjfgdaaGreatDoor.langCanonical
open Go.RowKit
set_option linter.unusedVariables false

set_option maxHeartbeats 4000000 in
set_option maxRecDepth 100000 in
theorem walk (l0 : List UInt8) (w : World) (s0 : l0.length ≤ 140737488351232) (T1 : TabW w) :
    Calls Tryz.prog 7 #[sv l0] w fun e w' => e = .returned (.bool true) ∧ Below w.heap.size w w' := by
  have HSA := hideIt (fun W (hW : Below w.heap.size w W) => sanity_any W (T1.keep hW))
  obtain ⟨x, hx⟩ : ∃ x, x = fixC (parseC l0) := ⟨_, rfl⟩
  obtain ⟨b, hb0⟩ : ∃ b, b = (parseC l0).2.2 := ⟨_, rfl⟩
  have hxl := (fix_len l0).2.2
  have hgood : b = 0 → Good x := fun h => by rw [hx]; unfold fixC; rw [if_pos (hb0 ▸ h)]; exact parse_good (hb0 ▸ h)
  have HP := hideIt (fun W => (parse_any l0 W).mono (R' := fun e w' => (∃ A c a, e = .returned (.tuple #[cdV x.name x.field x.data (.slice A x.par.length c) x.dom, .int .i64 a, .int .i64 b]) ∧ CIn w' x A) ∧ Below W.heap.size W w') (fun e w' h => ⟨by obtain ⟨A, c, he, hc⟩ := code_out h.1; rw [hx, hb0]; exact ⟨A, c, _, he, hc⟩, h.2⟩))
  rw [← hx] at hxl
  clear hx hb0 s0
  by_cases hb : b = 0
  · subst hb
    have hg := hgood rfl
    have hc0 : checkX x = 0 := (checkX_zero x (by have := (good_len hg).1; have h2 := hg.width; have h3 := hg.d1; unfold maxLen; omega)).2 ((checkC_good x).2 hg)
    have HCK := hideIt (fun A c W (h : CIn W x A) => show Calls Tryz.prog 14 #[cdV x.name x.field x.data (.slice A x.par.length c) x.dom] W (fun e w' => e = .returned (.int .i64 0) ∧ Below W.heap.size W w') by
      have h := check_any x A c W h
      rw [hc0] at h
      exact h)
    have HSM := hideIt (fun A A' c c' W (h : CIn W x A) (h' : CIn W x A') => show Calls Tryz.prog 17 #[cdV x.name x.field x.data (.slice A x.par.length c) x.dom, cdV x.name x.field x.data (.slice A' x.par.length c') x.dom] W (fun e w' => e = .returned (.bool true) ∧ Below W.heap.size W w') by
      have h := rsame_any x x A A' c c' W h h'
      rw [sameB_self] at h
      exact h)
    by_cases hlen : 2000 < (printS x).length
    · have hp : printX x = ([], 2) := by unfold printX; rw [if_neg (by rw [hc0]; simp), if_pos hlen]
      have HPR := hideIt (fun A c W (hW : Below w.heap.size w W) (h : CIn W x A) => show Calls Tryz.prog 11 #[cdV x.name x.field x.data (.slice A x.par.length c) x.dom] W (fun e w' => e = .returned (.tuple #[.string ⟨#[]⟩, .int .i64 2]) ∧ Below W.heap.size W w') by
        have h := print_any x A c W h (T1.keep hW)
        rw [hp] at h
        exact h)
      clear hg hgood hc0 hlen hp hxl
      go_enter Tryz.func7, Tryz.ntmps7
      go_wp2_with (first
        | (go_at_call 18; refine (HP.out _).mono ?_; rintro e w1 ⟨⟨A1, c1, a1, rfl, hc⟩, hb⟩; have HX1 := hideIt (BC.new c1 hc); have HB1 := hideIt (la7 (o := .cells #[sv x.name, .int .i64 x.field, .int .i64 x.data, .slice A1 x.par.length c1, .int .i64 x.dom] 24) hb); clear hc hb HP)
        | (go_at_call 11; refine (HPR.out _ _ _ HB1.out HX1.out.cin).mono ?_; rintro e w2 ⟨rfl, hb⟩; have HX2 := hideIt (HX1.out.keep hb); have HB2 := hideIt (ls7 HB1.out hb); clear hb HPR HX1 HB1)
        | (go_at_call 13; refine (HSA.out _ HB2.out).mono ?_; rintro e w3 ⟨rfl, hb⟩; have HX3 := hideIt (HX2.out.keep hb); have HB3 := hideIt (ls7 HB2.out hb); have x0 := HX3.out.box.cell 0; have x1 := HX3.out.box.cell 1; have x2 := HX3.out.box.cell 2; have x3 := HX3.out.box.cell 3; have x4 := HX3.out.box.cell 4; clear hb HSA HX2 HB2)
        | (go_at_call 14; refine (HCK.out _ _ _ HX3.out.cin).mono ?_; rintro e w4 ⟨rfl, hb⟩; have HB4 := hideIt (ls7 HB3.out hb); clear hb HCK HX3 HB3 x0 x1 x2 x3 x4))
      go_ret
      exact ⟨rfl, HB4.out⟩
    · have hp : printX x = (printS x, 0) := by unfold printX; rw [if_neg (by rw [hc0]; simp), if_neg hlen]
      have HP2 := hideIt (fun W => (parse_any (printS x) W).mono (R' := fun e w' => (∃ A c, e = .returned (.tuple #[cdV x.name x.field x.data (.slice A x.par.length c) x.dom, .int .i64 0, .int .i64 0]) ∧ CIn w' x A) ∧ Below W.heap.size W w') (fun e w' h => ⟨by
        have h1 := code_out h.1
        rw [parse_print hg (by omega)] at h1
        exact h1, h.2⟩))
      generalize printS x = T at *
      have HPR := hideIt (fun A c W (hW : Below w.heap.size w W) (h : CIn W x A) => show Calls Tryz.prog 11 #[cdV x.name x.field x.data (.slice A x.par.length c) x.dom] W (fun e w' => e = .returned (.tuple #[sv T, .int .i64 0]) ∧ Below W.heap.size W w') by
        have h := print_any x A c W h (T1.keep hW)
        rw [hp] at h
        exact h)
      have HPR2 := hideIt HPR.out
      have es := s_eql 9 T T
      rw [decide_eq_true rfl] at es
      clear hg hgood hc0 hlen hp hxl
      go_enter Tryz.func7, Tryz.ntmps7
      go_wp2_with (first
        | (go_at_call 18; refine (HP.out _).mono ?_; rintro e w1 ⟨⟨A1, c1, a1, rfl, hc⟩, hb⟩; have HX1 := hideIt (BC.new c1 hc); have HB1 := hideIt (la7 (o := .cells #[sv x.name, .int .i64 x.field, .int .i64 x.data, .slice A1 x.par.length c1, .int .i64 x.dom] 24) hb); clear hc hb HP)
        | (go_at_call 11; refine (HPR.out _ _ _ HB1.out HX1.out.cin).mono ?_; rintro e w2 ⟨rfl, hb⟩; have HX2 := hideIt (HX1.out.keep hb); have HB2 := hideIt (ls7 HB1.out hb); clear hb HPR HX1 HB1)
        | (go_at_call 18; refine (HP2.out _).mono ?_; rintro e w3 ⟨⟨A3, c3, rfl, hc⟩, hb⟩; have HY3 := hideIt (BC.new c3 hc); have HX3 := hideIt ((HX2.out.keep hb).al (.cells #[sv x.name, .int .i64 x.field, .int .i64 x.data, .slice A3 x.par.length c3, .int .i64 x.dom] 24)); have HB3 := hideIt (la7 (o := .cells #[sv x.name, .int .i64 x.field, .int .i64 x.data, .slice A3 x.par.length c3, .int .i64 x.dom] 24) (ls7 HB2.out hb)); clear hc hb HP2 HX2 HB2)
        | (go_at_call 11; refine (HPR2.out _ _ _ HB3.out HY3.out.cin).mono ?_; rintro e w4 ⟨rfl, hb⟩; have HX4 := hideIt (HX3.out.keep hb); have HY4 := hideIt (HY3.out.keep hb); have HB4 := hideIt (ls7 HB3.out hb); clear hb HPR2 HX3 HY3 HB3)
        | (go_at_call 13; refine (HSA.out _ HB4.out).mono ?_; rintro e w5 ⟨rfl, hb⟩; have HX5 := hideIt (HX4.out.keep hb); have HY5 := hideIt (HY4.out.keep hb); have HB5 := hideIt (ls7 HB4.out hb); have x0 := HX5.out.box.cell 0; have x1 := HX5.out.box.cell 1; have x2 := HX5.out.box.cell 2; have x3 := HX5.out.box.cell 3; have x4 := HX5.out.box.cell 4; clear hb HSA HX4 HY4 HB4)
        | (go_at_call 14; refine (HCK.out _ _ _ HX5.out.cin).mono ?_; rintro e w6 ⟨rfl, hb⟩; have HX6 := hideIt (HX5.out.keep hb); have HY6 := hideIt (HY5.out.keep hb); have HB6 := hideIt (ls7 HB5.out hb); clear x0 x1 x2 x3 x4; have x0 := HX6.out.box.cell 0; have x1 := HX6.out.box.cell 1; have x2 := HX6.out.box.cell 2; have x3 := HX6.out.box.cell 3; have x4 := HX6.out.box.cell 4; have y0 := HY6.out.box.cell 0; have y1 := HY6.out.box.cell 1; have y2 := HY6.out.box.cell 2; have y3 := HY6.out.box.cell 3; have y4 := HY6.out.box.cell 4; clear hb HCK HX5 HY5 HB5)
        | (go_at_call 17; refine (HSM.out _ _ _ _ _ HX6.out.cin HY6.out.cin).mono ?_; rintro e w7 ⟨rfl, hb⟩; have HB7 := hideIt (ls7 HB6.out hb); clear hb HSM HX6 HY6 HB6 x0 x1 x2 x3 x4 y0 y1 y2 y3 y4))
      go_ret
      exact ⟨rfl, HB7.out⟩
  · have en := i_neq 25 .i64 b 0
    rw [decide_eq_true hb] at en
    clear hgood hxl hb
    go_enter Tryz.func7, Tryz.ntmps7
    go_wp2_with (first
      | (go_at_call 18; refine (HP.out _).mono ?_; rintro e w1 ⟨⟨A1, c1, a1, rfl, hc⟩, hb⟩; have HB1 := hideIt (la7 (o := .cells #[sv x.name, .int .i64 x.field, .int .i64 x.data, .slice A1 x.par.length c1, .int .i64 x.dom] 24) hb); clear hc hb HP)
      | (go_at_call 13; refine (HSA.out _ HB1.out).mono ?_; rintro e w3 ⟨rfl, hb⟩; have HB3 := hideIt (ls7 HB1.out hb); clear hb HSA HB1))
    go_ret
    exact ⟨rfl, HB3.out⟩

end Go.Proofs.YtcogkdnlpjfgdaaGreatDoor.langCanonical
