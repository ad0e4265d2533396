/-
  The walk of the law: Print and Check answer as the document's do, and two codes are the same for both (P7.1, P7.3).
-/
import Derived.Test.YtcogkdnlpjfgdaaGreatDoorLwB
namespace Go.Proofs.YtcogkdnlpjfgdaaGreatDoor.langPrintMatchesSpec
open Go.RowKit
set_option linter.unusedVariables false
set_option linter.unusedSimpArgs false

theorem wp_region_quiet_below {P : Program} {id : Nat} {Q : Exit → Act → World → Prop} {a : Act} {w w0 : World} {B : Nat} {l : List Oper} (hm : P.follows .mixedOrders = true) (hB : Region.lexB .any l.toArray = true) (hC : Below B w0 w)
    (h : wpQuiet P l.toArray (fun w' => Below B w0 w') (fun a' => ∀ w', Below B w0 w' → Q .normal a' w') l a) : (Code.region id l.toArray true).wp P Q a w :=
  wp_region_quiet (C := fun w' => Below B w0 w') hm hB hC.drew (by simpa using h)
theorem quiet_run {P : Program} {o : Oper} {a : Act} {C : World → Prop} {K : Act → Prop} (v : Value) (h : ∀ W, C W → (execOp a.eval o).run P W = .ok (.value v) W) (hk : K (a.put o.dst v)) : o.quiet P a C K :=
  ⟨v, fun W hW => by unfold Oper.quietAt; rw [h W hW]; exact ⟨rfl, rfl⟩, hk⟩
theorem icd7 : (Tryz.prog.info? 24).map (·.size) = some 5 := by kernel_rfl
set_option maxHeartbeats 4000000 in
set_option maxRecDepth 100000 in
theorem walk (a0 : Cd) (A0 : Option Addr) (c0 : Nat) (a1 : Cd) (A1 : Option Addr) (c1 : Nat) (w : World) (x0 : CIn w a0 A0) (n0 : a0.name.length ≤ 9223372036854775807) (x1 : CIn w a1 A1) (n1 : a1.name.length ≤ 9223372036854775807) (T1 : TabW w) :
    Calls Tryz.prog 3 #[cdV a0.name a0.field a0.data (.slice A0 a0.par.length c0) a0.dom, cdV a1.name a1.field a1.data (.slice A1 a1.par.length c1) a1.dom] w fun e w' => e = .returned (.bool true) ∧ Below w.heap.size w w' := by
  have hX0 := BC.new c0 x0
  have hB0 := below_new w (.cells #[sv a0.name, .int .i64 a0.field, .int .i64 a0.data, .slice A0 a0.par.length c0, .int .i64 a0.dom] 24)
  obtain ⟨W0, hW0⟩ : ∃ W0, W0 = w.alloc (.cells #[sv a0.name, .int .i64 a0.field, .int .i64 a0.data, .slice A0 a0.par.length c0, .int .i64 a0.dom] 24) := ⟨_, rfl⟩
  rw [← hW0] at hX0 hB0
  have hX1 := hX0.al (.cells #[sv a1.name, .int .i64 a1.field, .int .i64 a1.data, .slice A1 a1.par.length c1, .int .i64 a1.dom] 24)
  have hY1 := BC.new c1 (x1.keep hB0)
  have hB1 := la7 (o := .cells #[sv a1.name, .int .i64 a1.field, .int .i64 a1.data, .slice A1 a1.par.length c1, .int .i64 a1.dom] 24) hB0
  have hs0 : W0.heap.size = w.heap.size + 1 := by rw [hW0]; simp
  rw [hs0] at hY1
  subst hW0
  have HX1 := hideIt hX1
  have HY1 := hideIt hY1
  have HB1 := hideIt hB1
  have HSA := hideIt (fun W (hW : Below w.heap.size w W) => sanity_any W (T1.keep hW))
  have HPR := hideIt (fun A c W (hW : Below w.heap.size w W) (h : CIn W a0 A) => print_any a0 A c W h (T1.keep hW))
  have HRP := hideIt (fun A c W (h : CIn W a0 A) => rprint_any a0 A c W h n0)
  have HCK := hideIt (fun A c W (h : CIn W a0 A) => check_any a0 A c W h)
  have HRC := hideIt (fun A c W (h : CIn W a0 A) => rcheck_any a0 A c W h n0)
  have HSM := hideIt (fun A A' c c' W (h : CIn W a0 A) (h' : CIn W a1 A') => csame_any a0 a1 A A' c c' W h h')
  have HRS := hideIt (fun A A' c c' W (h : CIn W a0 A) (h' : CIn W a1 A') => rsame_any a0 a1 A A' c c' W h h')
  generalize (printX a0).1 = T at *
  generalize (printX a0).2 = b at *
  generalize checkX a0 = k at *
  have es := s_eql 9 T T
  have eb := i_eql 25 .i64 b b
  have ek := i_eql 25 .i64 k k
  rw [decide_eq_true rfl] at es eb ek
  clear hX0 hB0 hX1 hY1 hB1 hs0 n0 n1 x0 x1
  generalize sameB a0 a1 = s at *
  cases s
  all_goals
    go_enter Tryz.func3, Tryz.ntmps3
    go_wp2_with (first
      | (go_at_call 11; refine (HPR.out _ _ _ HB1.out HX1.out.cin).mono ?_; rintro e w2 ⟨rfl, hb⟩; have HX2 := hideIt (HX1.out.keep hb); have HY2 := hideIt (HY1.out.keep hb); have HB2 := hideIt (ls7 HB1.out hb); have p0 := HX2.out.box.cell 0; have p1 := HX2.out.box.cell 1; have p2 := HX2.out.box.cell 2; have p3 := HX2.out.box.cell 3; have p4 := HX2.out.box.cell 4; clear hb HPR HX1 HY1 HB1)
      | (go_at_call 12; refine (HRP.out _ _ _ HX2.out.cin).mono ?_; rintro e w3 ⟨rfl, hb⟩; have HX3 := hideIt (HX2.out.keep hb); have HY3 := hideIt (HY2.out.keep hb); have HB3 := hideIt (ls7 HB2.out hb); clear hb HRP HX2 HY2 HB2 p0 p1 p2 p3 p4))
    have HX := hideIt (fun W (hW : Below w3.heap.size w3 W) => HX3.out.keep hW)
    have HY := hideIt (fun W (hW : Below w3.heap.size w3 W) => HY3.out.keep hW)
    refine wp_region_quiet_below (by kernel_rfl) (by kernel_rfl) (Below.refl w3.heap.size w3) ?_
    try simp only [Act.put]
    try simp only [List.setIfInBounds_toArray]
    try simp only [List.set_cons_succ]
    try simp only [List.set_cons_zero]
    go_big_quiet_step ((intro hb; refine (HSA.out _ (ls7 HB3.out hb)).mono ?_; rintro x wc ⟨rfl, hb2⟩; exact ⟨rfl, hb.trans (hb2.mono hb.size)⟩))
    go_big_quiet_step ((first | (intro _; rfl) | (intro _; exact ⟨rfl, rfl⟩)))
    go_big_quiet_want
    refine quiet_run (cdV a0.name a0.field a0.data (.slice A0 a0.par.length c0) a0.dom) (fun W hW => by simp [execOp, (HX.out W hW).box.cell 0, (HX.out W hW).box.cell 1, (HX.out W hW).box.cell 2, (HX.out W hW).box.cell 3, (HX.out W hW).box.cell 4, Result.andThen, go_sem]) ?_
    go_big_quiet_on
    try simp only [Act.put]
    try simp only [List.setIfInBounds_toArray]
    try simp only [List.set_cons_succ]
    try simp only [List.set_cons_zero]
    go_big_quiet_step ((intro hb; refine (HCK.out _ _ _ (HX.out _ hb).cin).mono ?_; rintro x wc ⟨rfl, hb2⟩; exact ⟨rfl, hb.trans (hb2.mono hb.size)⟩))
    go_big_quiet_want
    refine quiet_run (cdV a0.name a0.field a0.data (.slice A0 a0.par.length c0) a0.dom) (fun W hW => by simp [execOp, (HX.out W hW).box.cell 0, (HX.out W hW).box.cell 1, (HX.out W hW).box.cell 2, (HX.out W hW).box.cell 3, (HX.out W hW).box.cell 4, Result.andThen, go_sem]) ?_
    go_big_quiet_on
    try simp only [Act.put]
    try simp only [List.setIfInBounds_toArray]
    try simp only [List.set_cons_succ]
    try simp only [List.set_cons_zero]
    go_big_quiet_step ((intro hb; refine (HRC.out _ _ _ (HX.out _ hb).cin).mono ?_; rintro x wc ⟨rfl, hb2⟩; exact ⟨rfl, hb.trans (hb2.mono hb.size)⟩))
    go_big_quiet_want
    refine quiet_run (.bool true) (fun W hW => by simp [execOp, ek, Result.andThen, go_sem]) ?_
    go_big_quiet_on
    try simp only [Act.put]
    try simp only [List.setIfInBounds_toArray]
    try simp only [List.set_cons_succ]
    try simp only [List.set_cons_zero]
    go_big_quiet_step ((first | (intro _; rfl) | (intro _; exact ⟨rfl, rfl⟩)))
    go_big_quiet_step ((first | (intro _; rfl) | (intro _; exact ⟨rfl, rfl⟩)))
    go_big_quiet_step ((first | (intro _; rfl) | (intro _; exact ⟨rfl, rfl⟩)))
    go_big_quiet_step ((first | (intro _; rfl) | (intro _; exact ⟨rfl, rfl⟩)))
    go_big_quiet_want
    refine quiet_run (.bool true) (fun W hW => by simp [execOp, es, Result.andThen, go_sem]) ?_
    go_big_quiet_on
    try simp only [Act.put]
    try simp only [List.setIfInBounds_toArray]
    try simp only [List.set_cons_succ]
    try simp only [List.set_cons_zero]
    go_big_quiet_step ((first | (intro _; rfl) | (intro _; exact ⟨rfl, rfl⟩)))
    go_big_quiet_step ((first | (intro _; rfl) | (intro _; exact ⟨rfl, rfl⟩)))
    go_big_quiet_step ((first | (intro _; rfl) | (intro _; exact ⟨rfl, rfl⟩)))
    go_big_quiet_step ((first | (intro _; rfl) | (intro _; exact ⟨rfl, rfl⟩)))
    go_big_quiet_want
    refine quiet_run (.bool true) (fun W hW => by simp [execOp, eb, Result.andThen, go_sem]) ?_
    go_big_quiet_on
    try simp only [Act.put]
    try simp only [List.setIfInBounds_toArray]
    try simp only [List.set_cons_succ]
    try simp only [List.set_cons_zero]
    go_big_quiet_step ((first | (intro _; rfl) | (intro _; exact ⟨rfl, rfl⟩)))
    go_big_quiet_step ((first | (intro _; rfl) | (intro _; exact ⟨rfl, rfl⟩)))
    go_big_quiet_want
    refine quiet_run (cdV a0.name a0.field a0.data (.slice A0 a0.par.length c0) a0.dom) (fun W hW => by simp [execOp, (HX.out W hW).box.cell 0, (HX.out W hW).box.cell 1, (HX.out W hW).box.cell 2, (HX.out W hW).box.cell 3, (HX.out W hW).box.cell 4, Result.andThen, go_sem]) ?_
    go_big_quiet_on
    try simp only [Act.put]
    try simp only [List.setIfInBounds_toArray]
    try simp only [List.set_cons_succ]
    try simp only [List.set_cons_zero]
    go_big_quiet_want
    refine quiet_run (cdV a1.name a1.field a1.data (.slice A1 a1.par.length c1) a1.dom) (fun W hW => by simp [execOp, (HY.out W hW).box.cell 0, (HY.out W hW).box.cell 1, (HY.out W hW).box.cell 2, (HY.out W hW).box.cell 3, (HY.out W hW).box.cell 4, Result.andThen, go_sem]) ?_
    go_big_quiet_on
    try simp only [Act.put]
    try simp only [List.setIfInBounds_toArray]
    try simp only [List.set_cons_succ]
    try simp only [List.set_cons_zero]
    go_big_quiet_step ((intro hb; refine (HSM.out _ _ _ _ _ (HX.out _ hb).cin (HY.out _ hb).cin).mono ?_; rintro x wc ⟨rfl, hb2⟩; exact ⟨rfl, hb.trans (hb2.mono hb.size)⟩))
    go_big_quiet_want
    refine quiet_run (cdV a0.name a0.field a0.data (.slice A0 a0.par.length c0) a0.dom) (fun W hW => by simp [execOp, (HX.out W hW).box.cell 0, (HX.out W hW).box.cell 1, (HX.out W hW).box.cell 2, (HX.out W hW).box.cell 3, (HX.out W hW).box.cell 4, Result.andThen, go_sem]) ?_
    go_big_quiet_on
    try simp only [Act.put]
    try simp only [List.setIfInBounds_toArray]
    try simp only [List.set_cons_succ]
    try simp only [List.set_cons_zero]
    go_big_quiet_want
    refine quiet_run (cdV a1.name a1.field a1.data (.slice A1 a1.par.length c1) a1.dom) (fun W hW => by simp [execOp, (HY.out W hW).box.cell 0, (HY.out W hW).box.cell 1, (HY.out W hW).box.cell 2, (HY.out W hW).box.cell 3, (HY.out W hW).box.cell 4, Result.andThen, go_sem]) ?_
    go_big_quiet_on
    try simp only [Act.put]
    try simp only [List.setIfInBounds_toArray]
    try simp only [List.set_cons_succ]
    try simp only [List.set_cons_zero]
    go_big_quiet_step ((intro hb; refine (HRS.out _ _ _ _ _ (HX.out _ hb).cin (HY.out _ hb).cin).mono ?_; rintro x wc ⟨rfl, hb2⟩; exact ⟨rfl, hb.trans (hb2.mono hb.size)⟩))
    go_big_quiet_step ((first | (intro _; rfl) | (intro _; exact ⟨rfl, rfl⟩)))
    go_big_quiet_step ((first | (intro _; rfl) | (intro _; exact ⟨rfl, rfl⟩)))
    go_big_quiet_step ((first | (intro _; rfl) | (intro _; exact ⟨rfl, rfl⟩)))
    refine wpQuiet_nil ?_
    intro wc BC
    go_wp2
    go_ret
    exact ⟨rfl, ls7 HB3.out BC⟩

end Go.Proofs.YtcogkdnlpjfgdaaGreatDoor.langPrintMatchesSpec
