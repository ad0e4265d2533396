/-
  The walk of the law: What Print gives of a code is read as that code, by Parse and by ParseAll (P7.6).
-/
import Derived.Test.YtcogkdnlpjfgdaaGreatDoorLwB
namespace Go.Proofs.YtcogkdnlpjfgdaaGreatDoor.langRoundTrip
open Go.RowKit
set_option linter.unusedVariables false

theorem cs_one {w : World} {x : Cd} {A : Option Addr} (c : Nat) (h : CIn w x A) : CsIn (w.alloc (.cells #[sv x.name, .int .i64 x.field, .int .i64 x.data, .slice A x.par.length c, .int .i64 x.dom] 24)) [x] (some ⟨w.heap.size, 0, none⟩) := by
  have hb := BC.new c h
  refine ⟨⟨[cdC x.name x.field x.data (.slice A x.par.length c) x.dom], ⟨rfl, fun _ => ⟨_, 0, rfl, hb.box.lt, fun j v hj => ?_⟩⟩, ⟨⟨A, c, rfl, hb.cin.pm⟩, trivial⟩⟩, by simp, fun y hy => ?_, fun y hy => ?_⟩
  · rw [Nat.zero_add, hb.box.cell]; exact hj
  · rw [List.mem_singleton] at hy; subst hy; exact h.len
  · rw [List.mem_singleton] at hy; subst hy; exact h.lens
theorem print_zero {x : Cd} (hl : x.par.length ≤ 9223372036854775807) (h : (printX x).2 = 0) : Good x ∧ (printS x).length ≤ 2000 ∧ printX x = (printS x, 0) := by
  unfold printX at h ⊢
  by_cases h1 : checkX x ≠ 0
  · rw [if_pos h1] at h; exact absurd h h1
  · rw [if_neg h1] at h ⊢
    by_cases h2 : 2000 < (printS x).length
    · rw [if_pos h2] at h; exact absurd (show (2 : Int) = 0 from h) (by decide)
    · rw [if_neg h2]
      refine ⟨(checkC_good x).1 ((checkX_zero x (Nat.le_trans hl (by decide))).1 (Classical.not_not.1 h1)), by omega, rfl⟩
set_option maxHeartbeats 4000000 in
set_option maxRecDepth 100000 in
theorem walk (a0 : Cd) (A0 : Option Addr) (c0 : Nat) (w : World) (x0 : CIn w a0 A0) (n0 : a0.name.length ≤ 9223372036854775807) (T1 : TabW w) :
    Calls Tryz.prog 6 #[cdV a0.name a0.field a0.data (.slice A0 a0.par.length c0) a0.dom] w fun e w' => e = .returned (.bool true) ∧ Below w.heap.size w w' := by
  have HSA := hideIt (fun W (hW : Below w.heap.size w W) => sanity_any W (T1.keep hW))
  have HX0 := hideIt (BC.new c0 x0)
  have HB0 := hideIt (below_new w (.cells #[sv a0.name, .int .i64 a0.field, .int .i64 a0.data, .slice A0 a0.par.length c0, .int .i64 a0.dom] 24))
  have HPX := hideIt (fun (h : (printX a0).2 = 0) => print_zero x0.len h)
  have HPR := hideIt (fun A c W (hW : Below w.heap.size w W) (h : CIn W a0 A) => print_any a0 A c W h (T1.keep hW))
  obtain ⟨b, hb⟩ : ∃ b, b = (printX a0).2 := ⟨_, rfl⟩
  clear n0
  by_cases h0 : b = 0
  · obtain ⟨hg, hl, hp⟩ := HPX.out (hb ▸ h0)
    rw [hp] at HPR
    have HP := hideIt (fun W => (parse_any (printS a0) W).mono (R' := fun e w' => (∃ A c, e = .returned (.tuple #[cdV a0.name a0.field a0.data (.slice A a0.par.length c) a0.dom, .int .i64 0, .int .i64 0]) ∧ CIn w' a0 A) ∧ Below W.heap.size W w') (fun e w' h => ⟨by
      have h1 := code_out h.1
      rw [parse_print hg hl] at h1
      exact h1, h.2⟩))
    have hpa : parseAllC (printS a0) = ([a0], 0, 0) := by
      have h := parseAll_print (cs := [a0]) (fun c hc => by rw [List.mem_singleton] at hc; subst hc; exact hg) (by simpa using hl) (by simp) (by simp)
      simpa using h
    have HA := hideIt (fun W => (parseAll_any (printS a0) W).mono (R' := fun e w' => (∃ A c, e = .returned (.tuple #[.slice A 1 c, .int .i64 0, .int .i64 0]) ∧ CsIn w' [a0] A) ∧ Below W.heap.size W w') (fun e w' h => ⟨by
      obtain ⟨A, c, he, hc⟩ := h.1
      rw [hpa] at he hc
      exact ⟨A, c, he, hc.csin⟩, h.2⟩))
    have HSM := hideIt (fun A A' c c' W (h : CIn W a0 A) (h' : CIn W a0 A') => show Calls Tryz.prog 17 #[cdV a0.name a0.field a0.data (.slice A a0.par.length c) a0.dom, cdV a0.name a0.field a0.data (.slice A' a0.par.length c') a0.dom] W (fun e w' => e = .returned (.bool true) ∧ Below W.heap.size W w') by
      have h := rsame_any a0 a0 A A' c c' W h h'
      rw [sameB_self] at h
      exact h)
    have HSS := hideIt (fun A A' c c' W (h : CsIn W [a0] A) (h' : CsIn W [a0] A') => show Calls Tryz.prog 22 #[.slice A 1 c, .slice A' 1 c'] W (fun e w' => e = .returned (.bool true) ∧ Below W.heap.size W w') by
      have h := rsameAll_any [a0] [a0] A A' c c' W h h'
      rw [(samesB_iff [a0] [a0]).2 rfl] at h
      exact h)
    generalize printS a0 = T at *
    clear hb h0 hg hl hp hpa HPX x0
    go_enter Tryz.func6, Tryz.ntmps6
    go_wp2_with (first
      | (go_at_call 11; refine (HPR.out _ _ _ HB0.out HX0.out.cin).mono ?_; rintro e w1 ⟨rfl, hb⟩; have HX1 := hideIt (HX0.out.keep hb); have HB1 := hideIt (ls7 HB0.out hb); clear hb HPR HX0 HB0)
      | (go_at_call 18; refine (HP.out _).mono ?_; rintro e w2 ⟨⟨A2, c2, rfl, hc⟩, hb⟩; have HY2 := hideIt (BC.new c2 hc); have HX2 := hideIt ((HX1.out.keep hb).al (.cells #[sv a0.name, .int .i64 a0.field, .int .i64 a0.data, .slice A2 a0.par.length c2, .int .i64 a0.dom] 24)); have HB2 := hideIt (la7 (o := .cells #[sv a0.name, .int .i64 a0.field, .int .i64 a0.data, .slice A2 a0.par.length c2, .int .i64 a0.dom] 24) (ls7 HB1.out hb)); clear hc hb HP HX1 HB1)
      | (go_at_call 20; refine (HA.out _).mono ?_; rintro e w3 ⟨⟨A3, c3, rfl, hc⟩, hb⟩; have HZ3 := hideIt hc; have HX3 := hideIt (HX2.out.keep hb); have HY3 := hideIt (HY2.out.keep hb); have HB3 := hideIt (ls7 HB2.out hb); clear hc hb HA HX2 HY2 HB2)
      | (go_at_call 13; refine (HSA.out _ HB3.out).mono ?_; rintro e w4 ⟨rfl, hb⟩; have HX4 := hideIt (HX3.out.keep hb); have HY4 := hideIt (HY3.out.keep hb); have HZ4 := hideIt (HZ3.out.keep hb); have HB4 := hideIt (ls7 HB3.out hb); have x0 := HX4.out.box.cell 0; have x1 := HX4.out.box.cell 1; have x2 := HX4.out.box.cell 2; have x3 := HX4.out.box.cell 3; have x4 := HX4.out.box.cell 4; have y0 := HY4.out.box.cell 0; have y1 := HY4.out.box.cell 1; have y2 := HY4.out.box.cell 2; have y3 := HY4.out.box.cell 3; have y4 := HY4.out.box.cell 4; clear hb HSA HX3 HY3 HZ3 HB3)
      | (go_at_call 17; refine (HSM.out _ _ _ _ _ HX4.out.cin HY4.out.cin).mono ?_; rintro e w5 ⟨rfl, hb⟩; have HX5 := hideIt (HX4.out.keep hb); have HZ5 := hideIt (HZ4.out.keep hb); have HB5 := hideIt (ls7 HB4.out hb); clear hb HSM HX4 HY4 HZ4 HB4 x0 x1 x2 x3 x4 y0 y1 y2 y3 y4; have x0 := HX5.out.box.cell 0; have x1 := HX5.out.box.cell 1; have x2 := HX5.out.box.cell 2; have x3 := HX5.out.box.cell 3; have x4 := HX5.out.box.cell 4)
      | (go_at_call 22; refine (HSS.out _ _ _ _ _ (HZ5.out.keep (below_new w5 _)) (cs_one c0 HX5.out.cin)).mono ?_; rintro e w6 ⟨rfl, hb⟩; have HB6 := hideIt (ls7 (la7 HB5.out) hb); clear hb HSS HX5 HZ5 HB5 x0 x1 x2 x3 x4))
    go_ret
    exact ⟨rfl, HB6.out⟩
  · have en := i_neq 25 .i64 b 0
    rw [decide_eq_true h0] at en
    rw [← hb] at HPR
    generalize (printX a0).1 = T at *
    clear h0 hb HPX x0
    go_enter Tryz.func6, Tryz.ntmps6
    go_wp2_with (first
      | (go_at_call 11; refine (HPR.out _ _ _ HB0.out HX0.out.cin).mono ?_; rintro e w1 ⟨rfl, hb⟩; have HB1 := hideIt (ls7 HB0.out hb); clear hb HPR HX0 HB0)
      | (go_at_call 13; refine (HSA.out _ HB1.out).mono ?_; rintro e w3 ⟨rfl, hb⟩; have HB3 := hideIt (ls7 HB1.out hb); clear hb HSA HB1))
    go_ret
    exact ⟨rfl, HB3.out⟩

end Go.Proofs.YtcogkdnlpjfgdaaGreatDoor.langRoundTrip
