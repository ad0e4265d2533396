/-
  The program's isRow and Valid, walked.
-/
import Derived.Test.YtpjgmekpnlpjaaaDoorEraC
namespace Go.Proofs.YtpjgmekpnlpjaaaDoor
open Go.RowKit
set_option linter.unusedVariables false
set_option linter.unusedSimpArgs false

def mxL : List Int → Int → Int
  | [], z => z
  | a :: r, z => mxL r (max z a)
theorem mxL_snoc : ∀ (l : List Int) (z a : Int), mxL (l ++ [a]) z = max (mxL l z) a
  | [], _, _ => rfl
  | b :: r, z, a => mxL_snoc r (max z b) a
theorem mxL_pos : ∀ (l : List Int) (z : Int), decide (mxL l z > 0) = (decide (z > 0) || l.any (fun a => decide (a > 0)))
  | [], z => by simp [mxL]
  | a :: r, z => by
    show decide (mxL r (max z a) > 0) = _
    rw [mxL_pos r (max z a), List.any_cons, ← Bool.or_assoc]
    congr 1
    by_cases h : z ≤ a
    · rw [Int.max_eq_right h]
      by_cases h2 : a > 0
      · simp [h2]
      · have : ¬ z > 0 := by omega
        simp [h2, this]
    · rw [Int.max_eq_left (by omega)]
      by_cases h2 : z > 0
      · simp [h2]
      · have : ¬ a > 0 := by omega
        simp [h2, this]

theorem run_max2 {P : Program} {w : World} (ts : Array TypeId) (t : TypeId) (x y : Int) : (Builtin.max_ ts t #[.int .i64 x, .int .i64 y]).run P w = .ok (.int .i64 (max x y)) w := by
  rw [run_max_int2]
  congr 2
  by_cases h : y > x
  · rw [if_pos h, Int.max_eq_right (by omega)]
  · rw [if_neg h, Int.max_eq_left (by omega)]
attribute [local go_sem high] run_max2
set_option maxHeartbeats 1000000 in
theorem max_any (l : List Int) (h0 : 0 < l.length) (hl : l.length ≤ 100000) (A : Option Addr) (c B : Nat) (w : World) (hs : Sl w B A 1 l.length (l.map iv)) :
    Calls Tryd.prog 67 #[.slice A l.length c] w fun e w' => ∃ z : Int, e = .returned (.int .i64 z) ∧ decide (z > 0) = l.any (fun a => decide (a > 0)) ∧ w = w' := by
  obtain ⟨b, o, hA, hb, hc0⟩ := hs.num h0
  subst hA
  rw [Nat.add_zero] at hc0
  have HS := hideIt hs
  obtain ⟨n, hn⟩ : ∃ n, n = l.length := ⟨_, rfl⟩
  have HN := hideIt hn
  have hn1 : ¬ (n : Int) < 1 := by omega
  have h0n : (0 : Int) < (n : Int) := by omega
  have HZ : Hid (∀ z, z = mxL (l.drop 1) l[0] → decide (z > 0) = l.any (fun a => decide (a > 0))) := hideIt fun z hz => by
    rw [hz, mxL_pos]
    match l, h0 with
    | a :: r, _ => simp
  have HL : Hid (mxL ((l.take 1).drop 1) l[0] = l[0]) := hideIt (by
    match l, h0 with
    | a :: r, _ => simp [mxL])
  have HX : Hid (∀ k (hk : k < l.length), 1 ≤ k → mxL ((l.take (k + 1)).drop 1) l[0] = max (mxL ((l.take k).drop 1) l[0]) l[k]) := hideIt fun k hk h1 => by
    rw [take_snoc l k (by omega), List.drop_append_of_le_length (by rw [List.length_take]; omega), mxL_snoc]
  rw [← hn] at hl ⊢
  generalize l[0] = z0 at *
  clear hs hn h0
  go_enter Tryd.func67, Tryd.ntmps67
  go_wp2_with fail
  go_loopg [3, 4] n (fun g s3 s4 wr => ∃ j : Nat, j + g = n + 1 ∧ 1 ≤ j ∧ j ≤ n ∧ (∃ z, s3 = .int .i64 z ∧ Aside (z = mxL ((l.take j).drop 1) z0)) ∧ s4 = .int .i64 (j : Int) ∧ wr = w)
  case atStart => exact ⟨1, by omega, by omega, by omega, ⟨_, rfl, HL.out.symm⟩, rfl, rfl⟩
  case round =>
    obtain ⟨j, hj, hj1, hjn, ⟨z, rfl, HI⟩, rfl, rfl⟩ := hrel
    by_cases hlt : j < n
    · have hjl : j < l.length := by rw [← HN.out]; exact hlt
      obtain ⟨b2, o2, hA, hb2, hcell⟩ := HS.out.num hjl
      have HA2 := hideIt hA
      injection hA with hA
      injection hA with e1 e2
      subst e1 e2
      have HZZ := HX.out j hjl hj1
      have HZ2 := hideIt HZZ
      clear HZZ HX HL HZ HS HA2
      have hinc := inc_c 3 j (by omega)
      have hji : (j : Int) < (n : Int) := by omega
      generalize l[j] = y at *
      go_wp2_with fail
      go_roundg (gk - 1)
      case measure => omega
      case rel => exact ⟨j + 1, by omega, by omega, by omega, ⟨_, rfl, by show _ = mxL ((l.take (j + 1)).drop 1) z0; rw [HZ2.out, ← HI.out]⟩, by go_num, rfl⟩
    · have hji : ¬ (j : Int) < (n : Int) := by omega
      have HE : Hid (z = mxL (l.drop 1) z0) := by
        have := HI.out
        rw [List.take_of_length_le (by rw [← HN.out]; omega)] at this
        exact this
      go_wp2_with fail
      go_ret
      exact ⟨_, rfl, HZ.out _ HE.out, rfl⟩

/-- A row that may stand in a code. -/
theorem any_nz {m : Int} {l : List Int} (h : l.all (vd m) = true) : l.any (fun a => decide (a > 0)) = l.any (fun a => decide (a ≠ 0)) := by
  induction l with
  | nil => rfl
  | cons a r ih =>
    rw [List.all_cons, Bool.and_eq_true] at h
    rw [List.any_cons, List.any_cons, ih h.2]
    congr 1
    have := vd_nonneg h.1
    by_cases e : a = 0
    · subst e; rfl
    · rw [decide_eq_true e, decide_eq_true (show a > 0 by omega)]
theorem any_not {α : Type} (p : α → Bool) : ∀ l : List α, l.any (fun a => !p a) = !l.all p
  | [] => rfl
  | a :: r => by rw [List.any_cons, List.all_cons, any_not p r, Bool.not_and]

set_option maxHeartbeats 1000000 in
theorem isRow_any (x : Cd) (A : Option Addr) (c : Nat) (w : World) (hT : Tabs w) (hx : CIn w x A) (h1 : 1 ≤ x.data) (h2 : x.data ≤ 100000) (l : List Int) (hl : l.length ≤ 9223372036854775807) (D : Option Addr) (cd : Nat) (hs : Sl w w.heap.size D 1 l.length (l.map iv)) :
    Calls Tryd.prog 46 #[x.v A c, .slice D l.length cd] w fun e w' => e = .returned (.bool (rowOk x.field x.data l)) ∧ Below w.heap.size w w' := by
  obtain ⟨W, hW⟩ : ∃ W, W = w.alloc (.cells (x.cs A c).toArray 24) := ⟨_, rfl⟩
  have hbw : Below w.heap.size w W := by rw [hW]; exact below_new w _
  have HB := hideIt hbw
  have HBC := hideIt (show BC W w.heap.size x A c by rw [hW]; exact BC.new c hx)
  have c2 := HBC.out.c2
  have HSL := hideIt (hs.below hbw)
  have HC := hideIt (containsI_any l hl D cd w.heap.size (.func (.func 65) #[] #[.pointer (some ⟨w.heap.size, 0, none⟩)]) (fun a => !vd x.field a) W HSL.out ⟨_, _, rfl, enters_of Tryd.func65 (by kernel_rfl) rfl, fun a => wrong_any x A c _ W (hT.keep hbw) HBC.out a⟩)
  rw [any_not] at HC
  have HM := hideIt (fun h0 hl => max_any l h0 hl D cd w.heap.size W HSL.out)
  have hnot := not_b
  have hq := i_eql 3 .i64 (l.length : Int) x.data
  have HR : Hid (rowOk x.field x.data l = _) := hideIt rfl
  rw [hW] at c2
  have HWE := hideIt hW
  clear hs hbw hT hx hW
  unfold rowOk at *
  by_cases q1 : (l.length : Int) = x.data
  · rw [decide_eq_true q1] at hq
    rw [decide_eq_true q1, Bool.true_and]
    cases q2 : l.all (vd x.field) with
    | true =>
      rw [q2] at HC
      have HM2 := hideIt (HM.out (by omega) (by omega))
      rw [Bool.true_and, ← any_nz q2]
      clear q1 q2 HM HR h1 h2
      go_enter Tryd.func46, Tryd.ntmps46
      go_wp2_with (first
        | (go_at_call 66; rw [← HWE.out]; refine HC.out.mono ?_; rintro e w' ⟨rfl, rfl⟩)
        | (go_at_call 67; refine HM2.out.mono ?_; rintro e w' ⟨z, rfl, hz, rfl⟩; have HZ := hideIt hz; clear hz))
      go_ret
      refine ⟨?_, HB.out⟩
      rw [← HZ.out]; rfl
    | false =>
      rw [q2] at HC
      rw [Bool.false_and]
      clear q1 q2 HM HR h1 h2
      go_enter Tryd.func46, Tryd.ntmps46
      go_wp2_with (first
        | (go_at_call 66; rw [← HWE.out]; refine HC.out.mono ?_; rintro e w' ⟨rfl, rfl⟩))
      go_ret
      exact ⟨rfl, HB.out⟩
  · rw [decide_eq_false q1] at hq
    rw [decide_eq_false q1, Bool.false_and]
    clear q1 HM HR HC h1 h2
    go_enter Tryd.func46, Tryd.ntmps46
    go_wp2_with fail
    go_ret
    rw [← HWE.out]
    exact ⟨rfl, HB.out⟩
end Go.Proofs.YtpjgmekpnlpjaaaDoor
