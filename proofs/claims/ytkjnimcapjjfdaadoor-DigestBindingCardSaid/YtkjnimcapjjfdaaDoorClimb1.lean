/-
  The closure that climb passes to walk: it collects whether each sibling precedes.
-/
import Derived.Test.YtkjnimcapjjfdaaDoorWalk
import Derived.Test.YtkjnimcapjjfdaaDoorOnce
namespace Go.Proofs.YtkjnimcapjjfdaaDoor
open Go.RowKit
set_option linter.unusedVariables false

def befD (s : List (Nat × Nat × Bool)) : List Bool := s.map (fun x => x.2.2)
structure ClI (w0 : World) (base g0 : Nat) (done : List (Nat × Nat × Bool)) (W : World) : Prop where
  bel : Below base w0 W
  size : base ≤ W.heap.size
  out : ∃ v, Blk W g0 91 [v] ∧ W.ownsRow base 4 1 v done.length ((befD done).map Value.bool)
theorem Tryd.infoBool : (Tryd.prog.info? 4).map (fun i => (i.zero, i.size, i.bytes)) = some (some (.bool false), 1, 1) := by kernel_rfl
theorem bools_one (l : List Bool) : ∀ u ∈ l.map Value.bool, u.oneCell' = true := by
  intro u hu
  obtain ⟨b, _, rfl⟩ := List.mem_map.1 hu
  rfl

set_option maxHeartbeats 400000 in
set_option maxRecDepth 100000 in
theorem climb1_any (w0 : World) (base g0 M : Nat) (hM : M ≤ 1000000000) (hg0 : base ≤ g0)
    (done : List (Nat × Nat × Bool)) (lo hi : Nat) (b : Bool) (W : World) (hd : done.length + 1 ≤ M) (hI : ClI w0 base g0 done W) :
    Calls Tryd.prog 58 #[.int .i64 (lo : Int), .int .i64 (hi : Int), .bool b, .pointer (some ⟨g0, 0, none⟩)] W fun e w' => e = .returned (.tuple #[]) ∧ ClI w0 base g0 (done ++ [(lo, hi, b)]) w' := by
  obtain ⟨i0, hi0, hz0, hz1, hz2⟩ := info_parts Tryd.infoBool
  obtain ⟨v, hbv, hown⟩ := hI.out
  obtain ⟨Av, cv, rfl, hcv1, hcv2⟩ := own_form hown
  have hcv : W.cell? ⟨g0, 0, none⟩ = some (.slice Av done.length cv) := by rw [hbv.cell]; rfl
  have HI := hideIt hI
  have HBV := hideIt hbv
  have HOWN := hideIt hown
  clear hI hbv hown
  go_enter Tryd.func58, Tryd.ntmps58
  go_wp2_with ((with_reducible refine at_append ?_); refine wpList_app2 rfl (.tmp 7) (.tmp 9) 91 rfl base 4 i0 (.bool false) 1 1 Tryd.underlying91 hi0 hz0 hz1 hz2 rfl (by decide) (.slice Av done.length cv) done.length ((befD done).map Value.bool) rfl (HOWN.out.alloc _) (W.heap.size + 1) _ 1 1 [.bool b] rfl (sl_one W 4 (.bool b)) (bools_one [b]) (by unfold maxLen; omega) (by omega) (by have := HI.out.size; simp; omega) ?_; intro v3 w3 ho3 hg3; obtain ⟨A3, c3, rfl, hc31, hc32⟩ := own_form ho3; have HO3 := hideIt ho3; have HG3 := hideIt hg3; have HV3 := hideIt ((HBV.out.alloc (.cells #[.bool b] 4)).grown hg3 (own_ne (HOWN.out.alloc (.cells #[.bool b] 4)) (HBV.out.alloc (.cells #[.bool b] 4)) (by decide))); have hcv3 : w3.cell? ⟨g0, 0, none⟩ = some (.slice Av done.length cv) := (by rw [HV3.out.cell]; rfl); have hfr3 : w3.frozen? ⟨g0, 0, none⟩ = false := HV3.out.free 0; clear ho3 hg3)
  first | go_end0 | refine bodyPost_ret (results_none rfl _ _ _) rfl ?_
  have HT4 : Turned g0 w3 (w3.setCell ⟨g0, 0, none⟩ (.slice A3 (done.length + 1) c3)) := ⟨rfl, rfl, rfl, by simp, fun k hk => heap_setCell_other w3 ⟨g0, 0, none⟩ k _ hk⟩
  have hB3 : Below base w0 w3 := ((HI.out.bel.trans ((below_new W _).mono HI.out.size)).grown HG3.out (by have := HI.out.size; simp; omega) (fun k hk => ((HOWN.out.alloc (.cells #[.bool b] 4)).lt k hk).1))
  refine ⟨rfl, HT4.below hB3 hg0, by rw [HT4.size]; have := HG3.out.size; have := HI.out.size; simp at *; omega, _, HV3.out.store 0 _, ?_⟩
  have h9 := own_turned HO3.out HV3.out (by decide) HT4
  rw [List.length_append]
  simp only [befD, List.map_append, List.map_cons, List.map_nil, List.length_cons, List.length_nil] at h9 ⊢
  exact h9

end Go.Proofs.YtkjnimcapjjfdaaDoor
