/-
  Same, walked.
-/
import Derived.Test.YtcogkdnlpjfgdaaGreatDoorCodK
namespace Go.Proofs.YtcogkdnlpjfgdaaGreatDoor
open Go.RowKit
set_option linter.unusedVariables false
set_option linter.unusedSimpArgs false

theorem inc_w (t : TypeId) (j : Nat) (h : j < 9223372036854775807) : binOp .add t (.int .i64 (j : Int)) (.int .i64 1) = pure (.int .i64 ((j + 1 : Nat) : Int)) := by
  rw [binOp_add]
  simp only [Op.intArith]
  rw [IntWalk.i64_in _ (by omega)]
  rfl
set_option maxHeartbeats 1000000 in
set_option maxRecDepth 100000 in
theorem equal_any (xs ys : List Int) (hlx : xs.length ≤ 9223372036854775807) (hly : ys.length ≤ 9223372036854775807) (A A' : Option Addr) (B c c' : Nat) (w : World) (hx : Sl w B A 1 xs.length (xs.map iv)) (hy : Sl w B A' 1 ys.length (ys.map iv)) (hB : B ≤ w.heap.size) :
    Calls Tryz.prog 42 #[.slice A xs.length c, .slice A' ys.length c'] w fun e w' => e = .returned (.bool (decide (xs = ys))) ∧ Below w.heap.size w w' := by
  have HX := hideIt hx
  have HY := hideIt hy
  have HBB := hideIt hB
  obtain ⟨n, hn⟩ : ∃ n, n = xs.length := ⟨_, rfl⟩
  obtain ⟨m, hm⟩ : ∃ m, m = ys.length := ⟨_, rfl⟩
  rw [← hn, ← hm]
  rw [← hn] at hlx
  rw [← hm] at hly
  have HN := hideIt hn
  have HM := hideIt hm
  have hlen := i_neq 3 .i64 (n : Int) (m : Int)
  clear hx hy hn hm hB
  by_cases hl : n = m
  · subst hl
    rw [decide_eq_false (fun h => h rfl)] at hlen
    go_enter Tryz.func42, Tryz.ntmps42
    go_wp2_with fail
    go_loopg [13] n (fun gk s13 wr => ∃ j : Nat, j + gk = n ∧ s13 = .int .i64 (j : Int) ∧ Aside (xs.take j = ys.take j ∧ Below w.heap.size w wr))
    case atStart => exact ⟨0, by omega, rfl, rfl, Below.refl _ _⟩
    case round =>
      obtain ⟨j, hj, rfl, HI⟩ := hrel
      by_cases hlt : j < n
      · have hjl : j < xs.length := by rw [← HN.out]; exact hlt
        have hjm : j < ys.length := by rw [← HM.out]; exact hlt
        obtain ⟨b, o, hA, hb, hc⟩ := HX.out.num hjl
        obtain ⟨b', o', hA', hb', hc'⟩ := HY.out.num hjm
        subst hA hA'
        have q1 : wr.cell? ⟨b, o + j, none⟩ = some (.int .i64 xs[j]) := (HI.out.2.cell (p := ⟨b, _, none⟩) (Nat.lt_of_lt_of_le hb HBB.out)).trans hc
        have q2 : wr.cell? ⟨b', o' + j, none⟩ = some (.int .i64 ys[j]) := (HI.out.2.cell (p := ⟨b', _, none⟩) (Nat.lt_of_lt_of_le hb' HBB.out)).trans hc'
        have HT1 := hideIt (take_snoc xs j hjl)
        have HT2 := hideIt (take_snoc ys j hjm)
        have HG1 := hideIt (List.getElem?_eq_getElem hjl)
        have HG2 := hideIt (List.getElem?_eq_getElem hjm)
        have hne := i_neq 3 .i64 xs[j] ys[j]
        have hinc := inc_w 3 j (by omega)
        have hji : (j : Int) < (n : Int) := by omega
        generalize xs[j] = x at *
        generalize ys[j] = y at *
        clear hb hb' hc hc' hjl hjm
        by_cases he : x = y
        · rw [decide_eq_false (fun h => h he)] at hne
          have HE := hideIt he
          clear he
          go_wp2_with fail
          go_quiet (fail)
          go_wp2_with fail
          go_roundg (gk - 1)
          case measure => omega
          case rel => exact ⟨j + 1, by omega, by go_num, by rw [HT1.out, HT2.out, HI.out.1, HE.out], below_drewN HI.out.2 _⟩
        · rw [decide_eq_true he] at hne
          have HE := hideIt he
          clear he
          go_wp2_with fail
          go_quiet (fail)
          go_wp2_with fail
          go_ret
          exact ⟨ret_b (decide_eq_false fun h => HE.out (by have h1 := HG1.out; rw [h, HG2.out] at h1; injection h1 with h1; exact h1.symm)).symm, below_drewN HI.out.2 _⟩
      · have hji : ¬ (j : Int) < (n : Int) := by omega
        go_wp2_with fail
        go_ret
        have := HI.out.1
        rw [List.take_of_length_le (by rw [← HN.out]; omega), List.take_of_length_le (by rw [← HM.out]; omega)] at this
        exact ⟨ret_b (decide_eq_true this).symm, HI.out.2⟩
  · rw [decide_eq_true (by omega)] at hlen
    have Hl := hideIt hl
    clear hl
    go_enter Tryz.func42, Tryz.ntmps42
    go_wp2_with fail
    go_ret
    exact ⟨ret_b (decide_eq_false fun h => Hl.out (by rw [HN.out, HM.out, h])).symm, Below.refl _ _⟩
set_option maxHeartbeats 1000000 in
set_option maxRecDepth 100000 in
theorem equalFunc_any (xs ys : List (List Int)) (hlx : xs.length ≤ 9223372036854775807) (hly : ys.length ≤ 9223372036854775807) (hrx : ∀ l ∈ xs, l.length ≤ 9223372036854775807) (hry : ∀ l ∈ ys, l.length ≤ 9223372036854775807)
    (A A' : Option Addr) (c c' B : Nat) (w : World) (hx : PM w B A xs) (hy : PM w B A' ys) (hB : B ≤ w.heap.size) :
    Calls Tryz.prog 41 #[.slice A xs.length c, .slice A' ys.length c', .func (.func 42) #[] #[]] w fun e w' => e = .returned (.bool (decide (xs = ys))) ∧ Below w.heap.size w w' := by
  have hen : Enters Tryz.prog 42 := enters_of Tryz.func42 (by kernel_rfl) rfl
  unfold Enters at hen
  have HX := hideIt hx
  have HY := hideIt hy
  have HBB := hideIt hB
  have HRX := hideIt hrx
  have HRY := hideIt hry
  have hnot : ∀ (x : Bool) (w : World), (Op.unary .not (.bool x)).run Tryz.prog w = .ok (.bool (!x)) w := fun _ _ => rfl
  obtain ⟨n, hn⟩ : ∃ n, n = xs.length := ⟨_, rfl⟩
  obtain ⟨m, hm⟩ : ∃ m, m = ys.length := ⟨_, rfl⟩
  rw [← hn, ← hm]
  rw [← hn] at hlx
  rw [← hm] at hly
  have HN := hideIt hn
  have HM := hideIt hm
  have hlen := i_neq 3 .i64 (n : Int) (m : Int)
  clear hx hy hn hm hB hrx hry
  by_cases hl : n = m
  · subst hl
    rw [decide_eq_false (fun h => h rfl)] at hlen
    go_enter Tryz.func41, Tryz.ntmps41
    go_wp2_with fail
    go_loopg [17] n (fun gk s17 wr => ∃ j : Nat, j + gk = n ∧ s17 = .int .i64 (j : Int) ∧ Aside (xs.take j = ys.take j ∧ Below w.heap.size w wr))
    case atStart => exact ⟨0, by omega, rfl, rfl, Below.refl _ _⟩
    case round =>
      obtain ⟨j, hj, rfl, HI⟩ := hrel
      by_cases hlt : j < n
      · have hjl : j < xs.length := by rw [← HN.out]; exact hlt
        have hjm : j < ys.length := by rw [← HM.out]; exact hlt
        obtain ⟨b, o, A1, c1, hA, hb, hc, hs1⟩ := HX.out.row hjl
        obtain ⟨b', o', A2, c2, hA', hb', hc', hs2⟩ := HY.out.row hjm
        subst hA hA'
        have q1 : wr.cell? ⟨b, o + j, none⟩ = some (.slice A1 (xs[j]).length c1) := (HI.out.2.cell (p := ⟨b, _, none⟩) (Nat.lt_of_lt_of_le hb HBB.out)).trans hc
        have q2 : wr.cell? ⟨b', o' + j, none⟩ = some (.slice A2 (ys[j]).length c2) := (HI.out.2.cell (p := ⟨b', _, none⟩) (Nat.lt_of_lt_of_le hb' HBB.out)).trans hc'
        have HT1 := hideIt (take_snoc xs j hjl)
        have HT2 := hideIt (take_snoc ys j hjm)
        have HG1 := hideIt (List.getElem?_eq_getElem hjl)
        have HG2 := hideIt (List.getElem?_eq_getElem hjm)
        have HE := hideIt (equal_any xs[j] ys[j] (HRX.out _ (List.getElem_mem hjl)) (HRY.out _ (List.getElem_mem hjm)) A1 A2 B c1 c2 wr (hs1.below (HI.out.2.mono HBB.out)) (hs2.below (HI.out.2.mono HBB.out)) (Nat.le_trans HBB.out HI.out.2.size))
        have hinc := inc_w 3 j (by omega)
        have hji : (j : Int) < (n : Int) := by omega
        generalize xs[j] = x at *
        generalize ys[j] = y at *
        clear hb hb' hc hc' hjl hjm hs1 hs2
        by_cases he : x = y
        · rw [decide_eq_true he] at HE
          have HEQ := hideIt he
          clear he
          go_wp2_with (go_at_fn 42; refine HE.out.mono ?_; rintro e w1 ⟨rfl, hb⟩; have HB1 := hideIt hb; clear hb)
          go_roundg (gk - 1)
          case measure => omega
          case rel => exact ⟨j + 1, by omega, by go_num, by rw [HT1.out, HT2.out, HI.out.1, HEQ.out], HI.out.2.trans (HB1.out.mono HI.out.2.size)⟩
        · rw [decide_eq_false he] at HE
          have HEQ := hideIt he
          clear he
          go_wp2_with (go_at_fn 42; refine HE.out.mono ?_; rintro e w1 ⟨rfl, hb⟩; have HB1 := hideIt hb; clear hb)
          go_ret
          exact ⟨ret_b (decide_eq_false fun h => HEQ.out (by have h1 := HG1.out; rw [h, HG2.out] at h1; injection h1 with h1; exact h1.symm)).symm, HI.out.2.trans (HB1.out.mono HI.out.2.size)⟩
      · have hji : ¬ (j : Int) < (n : Int) := by omega
        go_wp2_with fail
        go_ret
        have := HI.out.1
        rw [List.take_of_length_le (by rw [← HN.out]; omega), List.take_of_length_le (by rw [← HM.out]; omega)] at this
        exact ⟨ret_b (decide_eq_true this).symm, HI.out.2⟩
  · rw [decide_eq_true (by omega)] at hlen
    have Hl := hideIt hl
    clear hl
    go_enter Tryz.func41, Tryz.ntmps41
    go_wp2_with fail
    go_ret
    exact ⟨ret_b (decide_eq_false fun h => Hl.out (by rw [HN.out, HM.out, h])).symm, Below.refl _ _⟩

/-- P7.2. -/
def sameB (a b : Cd) : Bool := decide (a.name = b.name) && decide (a.field = b.field) && decide (a.data = b.data) && decide (a.dom = b.dom) && decide (a.par = b.par)
theorem sameB_iff (a b : Cd) : sameB a b = true ↔ a = b := by
  unfold sameB
  cases a; cases b
  simp [Bool.and_eq_true]
  constructor
  · rintro ⟨⟨⟨⟨h1, h2⟩, h3⟩, h4⟩, h5⟩; exact ⟨h1, h2, h3, h5, h4⟩
  · rintro ⟨h1, h2, h3, h4, h5⟩; exact ⟨⟨⟨⟨h1, h2⟩, h3⟩, h5⟩, h4⟩
set_option maxHeartbeats 2000000 in
set_option maxRecDepth 100000 in
theorem csame_any (x y : Cd) (A A' : Option Addr) (c c' : Nat) (w : World) (hx : CIn w x A) (hy : CIn w y A') :
    Calls Tryz.prog 16 #[cdV x.name x.field x.data (.slice A x.par.length c) x.dom, cdV y.name y.field y.data (.slice A' y.par.length c') y.dom] w fun e w' => e = .returned (.bool (sameB x y)) ∧ Below w.heap.size w w' := by
  obtain ⟨W1, hW1⟩ : ∃ W1, W1 = (w.alloc (.cells #[sv x.name, .int .i64 x.field, .int .i64 x.data, .slice A x.par.length c, .int .i64 x.dom] 24)).alloc (.cells #[sv y.name, .int .i64 y.field, .int .i64 y.data, .slice A' y.par.length c', .int .i64 y.dom] 24) := ⟨_, rfl⟩
  have HBL : Hid (Below w.heap.size w W1) := by rw [hW1]; exact ((Below.refl _ _).alloc (Nat.le_refl _) _).alloc (by simp) _
  have hb1 : Blk W1 w.heap.size 24 [sv x.name, .int .i64 x.field, .int .i64 x.data, .slice A x.par.length c, .int .i64 x.dom] := by
    rw [hW1]; exact (Blk.new w 24 [sv x.name, .int .i64 x.field, .int .i64 x.data, .slice A x.par.length c, .int .i64 x.dom]).alloc _
  have hb2 : Blk W1 (w.heap.size + 1) 24 [sv y.name, .int .i64 y.field, .int .i64 y.data, .slice A' y.par.length c', .int .i64 y.dom] := by
    have := Blk.new (w.alloc (.cells #[sv x.name, .int .i64 x.field, .int .i64 x.data, .slice A x.par.length c, .int .i64 x.dom] 24)) 24 [sv y.name, .int .i64 y.field, .int .i64 y.data, .slice A' y.par.length c', .int .i64 y.dom]
    rw [show (w.alloc (.cells #[sv x.name, .int .i64 x.field, .int .i64 x.data, .slice A x.par.length c, .int .i64 x.dom] 24)).heap.size = w.heap.size + 1 by simp] at this
    rw [hW1]; exact this
  have HEF := hideIt (equalFunc_any x.par y.par hx.len hy.len hx.lens hy.lens A A' c c' w.heap.size W1 (hx.pm.below HBL.out) (hy.pm.below HBL.out) HBL.out.size)
  have r0 := hb1.cell 0
  have r1 := hb1.cell 1
  have r2 := hb1.cell 2
  have r3 := hb1.cell 3
  have r4 := hb1.cell 4
  have s0 := hb2.cell 0
  have s1 := hb2.cell 1
  have s2 := hb2.cell 2
  have s3 := hb2.cell 3
  have s4 := hb2.cell 4
  rw [hW1] at r0 r1 r2 r3 r4 s0 s1 s2 s3 s4
  have HW1 := hideIt hW1
  have t0 := s_eql 9 x.name y.name
  have t1 := i_eql 3 .i64 x.field y.field
  have t2 := i_eql 3 .i64 x.data y.data
  have t4 := i_eql 3 .i64 x.dom y.dom
  have hr : sameB x y = (decide (x.name = y.name) && decide (x.field = y.field) && decide (x.data = y.data) && decide (x.dom = y.dom) && decide (x.par = y.par)) := rfl
  rw [hr]
  generalize decide (x.name = y.name) = b0 at *
  generalize decide (x.field = y.field) = b1 at *
  generalize decide (x.data = y.data) = b2 at *
  generalize decide (x.dom = y.dom) = b4 at *
  generalize decide (x.par = y.par) = b3 at *
  generalize x.par.length = n at *
  generalize y.par.length = m at *
  clear hb1 hb2 hW1 hx hy hr
  cases b0
  · go_enter Tryz.func16, Tryz.ntmps16
    go_wp2_with fail
    go_ret
    exact ⟨rfl, by rw [← HW1.out]; exact HBL.out⟩
  cases b1
  · go_enter Tryz.func16, Tryz.ntmps16
    go_wp2_with fail
    go_ret
    exact ⟨rfl, by rw [← HW1.out]; exact HBL.out⟩
  cases b2
  · go_enter Tryz.func16, Tryz.ntmps16
    go_wp2_with fail
    go_ret
    exact ⟨rfl, by rw [← HW1.out]; exact HBL.out⟩
  cases b4
  · go_enter Tryz.func16, Tryz.ntmps16
    go_wp2_with fail
    go_ret
    exact ⟨rfl, by rw [← HW1.out]; exact HBL.out⟩
  · go_enter Tryz.func16, Tryz.ntmps16
    go_wp2_with (go_at_call 41; rw [← HW1.out]; refine HEF.out.mono ?_; rintro e w1 ⟨rfl, hb⟩; have HB1 := hideIt hb; clear hb)
    go_ret
    exact ⟨rfl, HBL.out.trans (HB1.out.mono HBL.out.size)⟩

end Go.Proofs.YtcogkdnlpjfgdaaGreatDoor
