/-
  The walk of the law: ParseAll answers as the document's parser does (P7.5).
-/
import Derived.Test.YtcogkdnlpjfgdaaGreatDoorLwB
namespace Go.Proofs.YtcogkdnlpjfgdaaGreatDoor.langAllMatchesSpec
open Go.RowKit
set_option linter.unusedVariables false

set_option maxHeartbeats 4000000 in
set_option maxRecDepth 100000 in
theorem walk (l0 : List UInt8) (w : World) (s0 : l0.length ≤ 140737488351232) (T1 : TabW w) :
    Calls Tryz.prog 5 #[sv l0] w fun e w' => e = .returned (.bool true) ∧ Below w.heap.size w w' := by
  have hln : l0.length ≤ 9223372036854775807 := by omega
  have HSA := hideIt (fun W (hW : Below w.heap.size w W) => sanity_any W (T1.keep hW))
  have HP := hideIt (fun W => (parseAll_any l0 W).mono (R' := fun e w' => (∃ A c, e = .returned (.tuple #[.slice A (parseAllC l0).1.length c, .int .i64 (parseAllC l0).2.1, .int .i64 (parseAllC l0).2.2]) ∧ CsIn w' (parseAllC l0).1 A) ∧ Below W.heap.size W w') (fun e w' h => ⟨by obtain ⟨A, c, he, hc⟩ := h.1; exact ⟨A, c, he, hc.csin⟩, h.2⟩))
  have HQ := hideIt (fun W => (rparseAll_any l0 W hln).mono (R' := fun e w' => (∃ A c, e = .returned (.tuple #[.slice A (parseAllC l0).1.length c, .int .i64 (parseAllC l0).2.1, .int .i64 (parseAllC l0).2.2]) ∧ CsIn w' (parseAllC l0).1 A) ∧ Below W.heap.size W w') (fun e w' h => ⟨by obtain ⟨A, c, he, hc⟩ := h.1; exact ⟨A, c, he, hc.csin⟩, h.2⟩))
  generalize (parseAllC l0).1 = x at *
  generalize (parseAllC l0).2.1 = a at *
  generalize (parseAllC l0).2.2 = b at *
  have HSM := hideIt (fun A A' c c' W (h : CsIn W x A) (h' : CsIn W x A') => show Calls Tryz.prog 22 #[.slice A x.length c, .slice A' x.length c'] W (fun e w' => e = .returned (.bool true) ∧ Below W.heap.size W w') by
    have h := rsameAll_any x x A A' c c' W h h'
    rw [(samesB_iff x x).2 rfl] at h
    exact h)
  have ea := i_eql 3 .i64 a a
  have eb := i_eql 25 .i64 b b
  rw [decide_eq_true rfl] at ea eb
  clear s0 hln
  go_enter Tryz.func5, Tryz.ntmps5
  go_wp2_with (first
    | (go_at_call 20; refine (HP.out _).mono ?_; rintro e w1 ⟨⟨A1, c1, rfl, hc⟩, hb⟩; have HX1 := hideIt hc; have HB1 := hideIt hb; clear hc hb HP)
    | (go_at_call 21; refine (HQ.out _).mono ?_; rintro e w2 ⟨⟨A2, c2, rfl, hc⟩, hb⟩; have HX2 := hideIt (HX1.out.keep hb); have HY2 := hideIt hc; have HB2 := hideIt (ls7 HB1.out hb); clear hc hb HQ HX1 HB1)
    | (go_at_call 13; refine (HSA.out _ HB2.out).mono ?_; rintro e w3 ⟨rfl, hb⟩; have HX3 := hideIt (HX2.out.keep hb); have HY3 := hideIt (HY2.out.keep hb); have HB3 := hideIt (ls7 HB2.out hb); clear hb HSA HX2 HY2 HB2)
    | (go_at_call 22; refine (HSM.out _ _ _ _ _ HX3.out HY3.out).mono ?_; rintro e w4 ⟨rfl, hb⟩; have HB4 := hideIt (ls7 HB3.out hb); clear hb HSM HX3 HY3 HB3))
  go_ret
  exact ⟨rfl, HB4.out⟩

end Go.Proofs.YtcogkdnlpjfgdaaGreatDoor.langAllMatchesSpec
