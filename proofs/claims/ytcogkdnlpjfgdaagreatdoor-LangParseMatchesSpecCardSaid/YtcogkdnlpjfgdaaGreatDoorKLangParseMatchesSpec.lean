/-
  The walk of the law: Parse answers as the document's parser does (P7.4).
-/
import Derived.Test.YtcogkdnlpjfgdaaGreatDoorLwB
namespace Go.Proofs.YtcogkdnlpjfgdaaGreatDoor.langParseMatchesSpec
open Go.RowKit
set_option linter.unusedVariables false

set_option maxHeartbeats 4000000 in
set_option maxRecDepth 100000 in
theorem walk (l0 : List UInt8) (w : World) (s0 : l0.length ≤ 140737488351232) (T1 : TabW w) :
    Calls Tryz.prog 4 #[sv l0] w fun e w' => e = .returned (.bool true) ∧ Below w.heap.size w w' := by
  have hln : l0.length ≤ 9223372036854775807 := by omega
  have HSA := hideIt (fun W (hW : Below w.heap.size w W) => sanity_any W (T1.keep hW))
  have HP := hideIt (fun W => (parse_any l0 W).mono (R' := fun e w' => (∃ A c, e = .returned (.tuple #[cdV (fixC (parseC l0)).name (fixC (parseC l0)).field (fixC (parseC l0)).data (.slice A (fixC (parseC l0)).par.length c) (fixC (parseC l0)).dom, .int .i64 (parseC l0).2.1, .int .i64 (parseC l0).2.2]) ∧ CIn w' (fixC (parseC l0)) A) ∧ Below W.heap.size W w') (fun e w' h => ⟨code_out h.1, h.2⟩))
  have HQ := hideIt (fun W => (rparse_any l0 W hln).mono (R' := fun e w' => (∃ A c, e = .returned (.tuple #[cdV (fixC (parseC l0)).name (fixC (parseC l0)).field (fixC (parseC l0)).data (.slice A (fixC (parseC l0)).par.length c) (fixC (parseC l0)).dom, .int .i64 (parseC l0).2.1, .int .i64 (parseC l0).2.2]) ∧ CIn w' (fixC (parseC l0)) A) ∧ Below W.heap.size W w') (fun e w' h => ⟨code_out h.1, h.2⟩))
  generalize fixC (parseC l0) = x at *
  generalize (parseC l0).2.1 = a at *
  generalize (parseC l0).2.2 = b at *
  have HSM := hideIt (fun A A' c c' W (h : CIn W x A) (h' : CIn W x A') => show Calls Tryz.prog 17 #[cdV x.name x.field x.data (.slice A x.par.length c) x.dom, cdV x.name x.field x.data (.slice A' x.par.length c') x.dom] W (fun e w' => e = .returned (.bool true) ∧ Below W.heap.size W w') by
    have h := rsame_any x x A A' c c' W h h'
    rw [sameB_self] at h
    exact h)
  have ea := i_eql 3 .i64 a a
  have eb := i_eql 25 .i64 b b
  rw [decide_eq_true rfl] at ea eb
  clear s0 hln
  go_enter Tryz.func4, Tryz.ntmps4
  go_wp2_with (first
    | (go_at_call 18; refine (HP.out _).mono ?_; rintro e w1 ⟨⟨A1, c1, rfl, hc⟩, hb⟩; have HX1 := hideIt (BC.new c1 hc); have HB1 := hideIt (la7 (o := .cells #[sv x.name, .int .i64 x.field, .int .i64 x.data, .slice A1 x.par.length c1, .int .i64 x.dom] 24) hb); clear hc hb HP)
    | (go_at_call 19; refine (HQ.out _).mono ?_; rintro e w2 ⟨⟨A2, c2, rfl, hc⟩, hb⟩; have HX2 := hideIt ((HX1.out.keep hb).al (.cells #[sv x.name, .int .i64 x.field, .int .i64 x.data, .slice A2 x.par.length c2, .int .i64 x.dom] 24)); have HY2 := hideIt (BC.new c2 hc); have HB2 := hideIt (la7 (o := .cells #[sv x.name, .int .i64 x.field, .int .i64 x.data, .slice A2 x.par.length c2, .int .i64 x.dom] 24) (ls7 HB1.out hb)); clear hc hb HQ HX1 HB1)
    | (go_at_call 13; refine (HSA.out _ HB2.out).mono ?_; rintro e w3 ⟨rfl, hb⟩; have HX3 := hideIt (HX2.out.keep hb); have HY3 := hideIt (HY2.out.keep hb); have HB3 := hideIt (ls7 HB2.out hb); have x0 := HX3.out.box.cell 0; have x1 := HX3.out.box.cell 1; have x2 := HX3.out.box.cell 2; have x3 := HX3.out.box.cell 3; have x4 := HX3.out.box.cell 4; have y0 := HY3.out.box.cell 0; have y1 := HY3.out.box.cell 1; have y2 := HY3.out.box.cell 2; have y3 := HY3.out.box.cell 3; have y4 := HY3.out.box.cell 4; clear hb HSA HX2 HY2 HB2)
    | (go_at_call 17; refine (HSM.out _ _ _ _ _ HX3.out.cin HY3.out.cin).mono ?_; rintro e w4 ⟨rfl, hb⟩; have HB4 := hideIt (ls7 HB3.out hb); clear hb HSM HX3 HY3 HB3 x0 x1 x2 x3 x4 y0 y1 y2 y3 y4))
  go_ret
  exact ⟨rfl, HB4.out⟩

end Go.Proofs.YtcogkdnlpjfgdaaGreatDoor.langParseMatchesSpec
