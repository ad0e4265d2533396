/-
  Check, walked.
-/
import Derived.Test.YtcogkdnlpjfgdaaGreatDoorCodI
namespace Go.Proofs.YtcogkdnlpjfgdaaGreatDoor
open Go.RowKit
set_option linter.unusedVariables false
set_option linter.unusedSimpArgs false

theorem not_c (x : Bool) (w : World) : (Op.unary .not (.bool x)).run Tryz.prog w = .ok (.bool (!x)) w := rfl
theorem wrong_any (x : Cd) (v : Value) (hf : x.field = 8 ∨ x.field = 16) (cb : Nat) (w : World) (hb : Blk w cb 24 (cdC x.name x.field x.data v x.dom)) (n : Int) :
    Calls Tryz.prog 58 #[.int .i64 n, .pointer (some ⟨cb, 0, none⟩)] w fun e w' => e = .returned (.bool (!coefB x.field n)) ∧ w = w' := by
  have HCO := hideIt (isCoef_any x.field n hf)
  have hc := hb.cell 1
  have hnot : ∀ (x : Bool) (w : World), (Op.unary .not (.bool x)).run Tryz.prog w = .ok (.bool (!x)) w := fun _ _ => rfl
  generalize coefB x.field n = b at *
  clear hb hf
  go_enter Tryz.func58, Tryz.ntmps58
  go_wp2_with (go_at_call 59; refine (HCO.out _).mono ?_; rintro e w' ⟨rfl, rfl⟩)
  go_ret
  exact ⟨rfl, rfl⟩
set_option maxHeartbeats 1000000 in
set_option maxRecDepth 100000 in
theorem isRow_any (x : Cd) (v : Value) (hf : x.field = 8 ∨ x.field = 16) (l : List Int) (hl : l.length ≤ 9223372036854775807) (A : Option Addr) (c B : Nat) (w : World) (hs : Sl w B A 1 l.length (l.map iv)) (hB : B ≤ w.heap.size) :
    Calls Tryz.prog 37 #[cdV x.name x.field x.data v x.dom, .slice A l.length c] w fun e w' => e = .returned (.bool (rowOk x.field x.data l)) ∧ Below w.heap.size w w' := by
  obtain ⟨W1, hW1⟩ : ∃ W1, W1 = w.alloc (.cells #[sv x.name, .int .i64 x.field, .int .i64 x.data, v, .int .i64 x.dom] 24) := ⟨_, rfl⟩
  have hb : Blk W1 w.heap.size 24 [sv x.name, .int .i64 x.field, .int .i64 x.data, v, .int .i64 x.dom] := by rw [hW1]; exact Blk.new w 24 [sv x.name, .int .i64 x.field, .int .i64 x.data, v, .int .i64 x.dom]
  have hbl : Below w.heap.size w W1 := by rw [hW1]; exact below_new w _
  have hs1 := hs.below (hbl.mono hB)
  have c2 := hb.cell 2
  have hK : AsksI W1 (.func (.func 58) #[] #[.pointer (some ⟨w.heap.size, 0, none⟩)]) (fun y => !coefB x.field y) := ⟨_, _, rfl, enters_of Tryz.func58 (by kernel_rfl) rfl, fun y => wrong_any x v hf w.heap.size W1 hb y⟩
  have HC := hideIt (containsI_any l hl A c B _ (fun y => !coefB x.field y) W1 hs1 hK)
  have HZ := hideIt (isZero_any l hl A c B W1 hs1)
  rw [hW1] at c2
  have HW1 := hideIt hW1
  clear hK hW1
  have hnot : ∀ (x : Bool) (w : World), (Op.unary .not (.bool x)).run Tryz.prog w = .ok (.bool (!x)) w := fun _ _ => rfl
  have hmf : ∀ (fn : Fn) (first cap : Array Value) (w : World), (Instr.makeFunc fn first cap).run Tryz.prog w = .ok (.func fn first cap) w := fun _ _ _ _ => rfl
  have heq := i_eql 3 .i64 (l.length : Int) x.data
  have hr : rowOk x.field x.data l = (decide ((l.length : Int) = x.data) && !(l.any fun y => !coefB x.field y) && !(!l.any nz)) := by
    unfold rowOk
    have h1 : (l.all fun y => decide (0 ≤ y ∧ y ≤ topF x.field)) = !(l.any fun y => !coefB x.field y) := by
      rw [List.any_eq_not_all_not, Bool.not_not]
      congr 1
      funext y
      show decide (0 ≤ y ∧ y ≤ topF x.field) = !!coefB x.field y
      rw [Bool.not_not]; rfl
    rw [h1, Bool.not_not]
    rfl
  rw [hr]
  have HBL := hideIt hbl
  generalize (l.any fun y => !coefB x.field y) = b2 at *
  generalize l.any nz = b3 at *
  generalize decide ((l.length : Int) = x.data) = b1 at *
  generalize l.length = n at *
  clear hb hbl hs1 hs hB hl hr hf
  cases b1 <;> cases b2 <;> cases b3 <;>
  · go_enter Tryz.func37, Tryz.ntmps37
    go_wp2_with (first
      | (go_at_call 60; rw [← HW1.out]; refine HC.out.mono ?_; rintro e w' ⟨rfl, rfl⟩)
      | (go_at_call 61; (try rw [← HW1.out]); refine HZ.out.mono ?_; rintro e w' ⟨rfl, rfl⟩))
    go_ret
    exact ⟨rfl, by first | exact HBL.out | exact below_new w _⟩

end Go.Proofs.YtcogkdnlpjfgdaaGreatDoor
