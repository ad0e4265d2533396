/-
  The laws' example, as plain mathematics: the code lrc, its checks and plans.
-/
import Derived.Test.YtklngodlijiccaaDoorRepB
import Derived.Test.YtklngodlijiccaaDoorRepM
import Derived.Test.YtklngodlijiccaaDoorRepL
namespace Go.Proofs.YtklngodlijiccaaDoor
open Go.RowKit
set_option linter.unusedVariables false
set_option linter.unusedSimpArgs false

theorem bes_of {x : Cd} {m n : Nat} (h : VC x m n) {hs : List Bool} {u : Nat} (hok : okB x hs = true) (hu : u < hs.length) {B : List Nat} (hB : basL x (ot hs u) = B) (c : Nat → Nat) (hc : Vv m c) (hd : ∀ j, j < n → gC x u j = cb m B.length (sel (gC x) B) c j) : bes0 x hs u = some (tms B c B.length) := by
  have hr : recov x (ot hs u) u := by rw [recov_vc h, hB]; exact ⟨c, hc, hd⟩
  have hi : Ind m n B.length (sel (gC x) B) := by
    have := bas_ind (n := n) (hv := hvF (ot hs u)) h.fm (gC_v h) (ot hs u).length
    rw [← basL_vc h, hB] at this
    exact this
  rw [(bes0_rec hok hu).1 hr, cofU_vc h, hB, tms_congr (d := c) (fun i hi2 => cof_is hi hc hd i hi2)]
def lrX : Cd := ⟨[108, 114, 99], 8, 4, [[1, 1, 0, 0], [0, 0, 1, 1], [1, 2, 4, 8]], 7⟩
def lr1 : List Bool := [true, true, false, true, true, true, true]
def lr2 : List Bool := [true, true, false, false, true, true, true]
def lr3 : List Bool := [true, true, false, false, true, false, true]
theorem lr_fm : Fm 8 := .inl rfl
theorem lr_vc : VC lrX 8 4 := by
  refine ⟨by unfold Fm; omega, rfl, rfl, by decide, by decide, fun l hl => ?_⟩
  have : l = [1, 1, 0, 0] ∨ l = [0, 0, 1, 1] ∨ l = [1, 2, 4, 8] := by simpa [lrX] using hl
  rcases this with rfl | rfl | rfl
  · exact ⟨rfl, by decide, 1, by decide, by decide⟩
  · exact ⟨rfl, by decide, 1, by decide, by decide⟩
  · exact ⟨rfl, by decide, 1, by decide, by decide⟩
theorem lr_sm : Sm lrX := smB_sm (by decide +kernel)
theorem lr_v : Vm 8 (gC lrX) := gC_v lr_vc
theorem lr_checks : chksR lrX 2 = [[2, 3, 5], [0, 1, 2, 3, 6]] := by decide +kernel
theorem cbn0 (m : Nat) (V : Mx) (c : Nat → Nat) (j : Nat) : cb m 0 V c j = 0 := rfl
theorem cbn1 (m : Nat) (V : Mx) (c : Nat → Nat) (j : Nat) : cb m 1 V c j = mul m (c 0) (V 0 j) := by
  show 0 ^^^ mul m (c 0) (V 0 j) = _
  rw [Nat.zero_xor]
theorem cbn2 (m : Nat) (V : Mx) (c : Nat → Nat) (j : Nat) : cb m 2 V c j = mul m (c 0) (V 0 j) ^^^ mul m (c 1) (V 1 j) := by
  show 0 ^^^ mul m (c 0) (V 0 j) ^^^ mul m (c 1) (V 1 j) = _
  rw [Nat.zero_xor]
theorem cbn3 (m : Nat) (V : Mx) (c : Nat → Nat) (j : Nat) : cb m 3 V c j = mul m (c 0) (V 0 j) ^^^ mul m (c 1) (V 1 j) ^^^ mul m (c 2) (V 2 j) := by
  show 0 ^^^ mul m (c 0) (V 0 j) ^^^ mul m (c 1) (V 1 j) ^^^ mul m (c 2) (V 2 j) = _
  rw [Nat.zero_xor]
/-- A row that is not zero where all rows of the basis are zero is new. -/
theorem lr_new {B : List Nat} {u j : Nat} (hj : j < 4) (h0 : ∀ k, k < B.length → gC lrX (B.getD k 0) j = 0) (hu : gC lrX u j ≠ 0) : ¬ Dep 8 4 B.length (sel (gC lrX) B) (gC lrX u) := by
  rintro ⟨c, hc, h⟩
  refine hu ((h j hj).trans (sm_zero fun k hk => ?_))
  show mul 8 (c k) (gC lrX (B.getD k 0) j) = 0
  rw [h0 k hk, mul_zeroR]
theorem lr_bas01 (hv : Nat → Bool) (h0 : hv 0 = true) (h1 : hv 1 = true) : bas 8 4 (gC lrX) hv 2 = [0, 1] := by
  have e1 : bas 8 4 (gC lrX) hv 1 = [0] := by
    rw [bas_new h0 (lr_new (B := []) (j := 0) (by decide) (fun k hk => absurd hk (by simp)) (by decide))]; rfl
  rw [bas_new h1 (by rw [e1]; exact lr_new (j := 1) (by decide) (fun k hk => by rcases (show k = 0 by simpa using hk) with rfl; decide) (by decide)), e1]; rfl
theorem lr_four (B : List Nat) (hv : Nat → Bool) (k : Nat) (hB : bas 8 4 (gC lrX) hv k = B) (hl : B.length = 4) (u : Nat) : Dep 8 4 B.length (sel (gC lrX) B) (gC lrX u) := by
  have hi := bas_ind (n := 4) (hv := hv) lr_fm lr_v k
  rw [hB, hl] at hi
  rw [hl]
  exact Ind.full lr_fm (fun i j => lr_v _ j) hi (lr_v u)
/-- unit 4 is the sum of 0 and 1 -/
theorem lr_dep4 : Dep 8 4 ([0, 1] : List Nat).length (sel (gC lrX) [0, 1]) (gC lrX 4) := ⟨fun _ => 1, fun _ => by show 1 < 256; decide, fun j hj => by
  match j, hj with
  | 0, _ => decide +kernel
  | 1, _ => decide +kernel
  | 2, _ => decide +kernel
  | 3, _ => decide +kernel⟩
theorem lr_dep4b : Dep 8 4 ([0, 1, 3] : List Nat).length (sel (gC lrX) [0, 1, 3]) (gC lrX 4) := ⟨fun k => if k = 2 then 0 else 1, fun k => by show (if k = 2 then 0 else 1) < 256; split <;> decide, fun j hj => by
  match j, hj with
  | 0, _ => decide +kernel
  | 1, _ => decide +kernel
  | 2, _ => decide +kernel
  | 3, _ => decide +kernel⟩
theorem lr_bas1 : basL lrX (ot lr1 2) = [0, 1, 3, 5] := by
  have e : basL lrX (ot lr1 2) = bas 8 4 (gC lrX) (hvF (ot lr1 2)) 7 := rfl
  have e2 := lr_bas01 (hvF (ot lr1 2)) rfl rfl
  have e3 := (bas_abs (m := 8) (n := 4) (G := gC lrX) (hv := hvF (ot lr1 2)) (k := 2) (by decide)).trans e2
  have e4 : bas 8 4 (gC lrX) (hvF (ot lr1 2)) 4 = [0, 1, 3] := by
    rw [bas_new (k := 3) rfl (by rw [e3]; exact lr_new (j := 3) (by decide) (fun k hk => by rcases (show k = 0 ∨ k = 1 by have : k < 2 := hk; omega) with rfl | rfl <;> decide) (by decide)), e3]; rfl
  have e5 : bas 8 4 (gC lrX) (hvF (ot lr1 2)) 5 = [0, 1, 3] := by rw [bas_dep (by rw [e4]; exact lr_dep4b), e4]
  have e6 : bas 8 4 (gC lrX) (hvF (ot lr1 2)) 6 = [0, 1, 3, 5] := by
    rw [bas_new (k := 5) rfl (by rw [e5]; exact lr_new (j := 2) (by decide) (fun k hk => by rcases (show k = 0 ∨ k = 1 ∨ k = 2 by have : k < 3 := hk; omega) with rfl | rfl | rfl <;> decide) (by decide)), e5]; rfl
  rw [e, bas_dep (by rw [e6]; exact lr_four _ _ 6 e6 rfl 6), e6]
theorem lr_bas2' (hv : Nat → Bool) (h0 : hv 0 = true) (h1 : hv 1 = true) (h2 : hv 2 = false) (h3 : hv 3 = false) (h4 : hv 4 = true) : bas 8 4 (gC lrX) hv 5 = [0, 1] := by
  have e2 := lr_bas01 hv h0 h1
  have e3 := (bas_abs (m := 8) (n := 4) (G := gC lrX) (hv := hv) (k := 2) (by rw [h2]; decide)).trans e2
  have e4 := (bas_abs (m := 8) (n := 4) (G := gC lrX) (hv := hv) (k := 3) (by rw [h3]; decide)).trans e3
  rw [bas_dep (by rw [e4]; exact lr_dep4), e4]
theorem lr_bas2 (hv : Nat → Bool) (h0 : hv 0 = true) (h1 : hv 1 = true) (h2 : hv 2 = false) (h3 : hv 3 = false) (h4 : hv 4 = true) (h5 : hv 5 = true) (h6 : hv 6 = true) : bas 8 4 (gC lrX) hv 7 = [0, 1, 5, 6] := by
  have e5 := lr_bas2' hv h0 h1 h2 h3 h4
  have e6 : bas 8 4 (gC lrX) hv 6 = [0, 1, 5] := by
    rw [bas_new h5 (by rw [e5]; exact lr_new (j := 2) (by decide) (fun k hk => by rcases (show k = 0 ∨ k = 1 by have : k < 2 := hk; omega) with rfl | rfl <;> decide) (by decide)), e5]; rfl
  rw [bas_new h6 (by
    rw [e6]
    rintro ⟨c, hc, h⟩
    have a2 := h 2 (by decide)
    have a3 := h 3 (by decide)
    rw [show ([0, 1, 5] : List Nat).length = 3 from rfl, cbn3] at a2 a3
    change gC lrX 6 2 = mul 8 (c 0) (gC lrX 0 2) ^^^ mul 8 (c 1) (gC lrX 1 2) ^^^ mul 8 (c 2) (gC lrX 5 2) at a2
    change gC lrX 6 3 = mul 8 (c 0) (gC lrX 0 3) ^^^ mul 8 (c 1) (gC lrX 1 3) ^^^ mul 8 (c 2) (gC lrX 5 3) at a3
    rw [show gC lrX 6 2 = 4 by decide, show gC lrX 0 2 = 0 by decide, show gC lrX 1 2 = 0 by decide, show gC lrX 5 2 = 1 by decide, mul_zeroR, mul_zeroR, mul_oneR lr_fm] at a2
    rw [show gC lrX 6 3 = 8 by decide, show gC lrX 0 3 = 0 by decide, show gC lrX 1 3 = 0 by decide, show gC lrX 5 3 = 1 by decide, mul_zeroR, mul_zeroR, mul_oneR lr_fm] at a3
    exact absurd (a2.trans a3.symm) (by decide)), e6]; rfl
theorem lr_ok1 : okB lrX lr1 = true := by decide +kernel
theorem lr_ok2 : okB lrX lr2 = true := by decide +kernel
theorem lr_ok3 : okB lrX lr3 = true := by decide +kernel
theorem lr_bes1 : bes0 lrX lr1 2 = some [(3, 1), (5, 1)] := by
  rw [bes_of lr_vc lr_ok1 (by decide) lr_bas1 (fun k => if k < 2 then 0 else 1) (fun k => by show (if k < 2 then 0 else 1) < 256; split <;> decide) (fun j hj => by
    match j, hj with
    | 0, _ => decide +kernel
    | 1, _ => decide +kernel
    | 2, _ => decide +kernel
    | 3, _ => decide +kernel)]
  rfl
theorem lr_bas22 : basL lrX (ot lr2 2) = [0, 1, 5, 6] := lr_bas2 (hvF (ot lr2 2)) rfl rfl rfl rfl rfl rfl rfl
theorem lr_bas23 : basL lrX (ot lr2 3) = [0, 1, 5, 6] := lr_bas2 (hvF (ot lr2 3)) rfl rfl rfl rfl rfl rfl rfl
theorem lr_bes2 : bes0 lrX lr2 2 = some [(0, 61), (1, 122), (5, 245), (6, 61)] := by
  rw [bes_of lr_vc lr_ok2 (by decide) lr_bas22 (fun k => if k = 1 then 122 else if k = 2 then 245 else 61) (fun k => by show (if k = 1 then 122 else if k = 2 then 245 else 61) < 256; split; decide; split <;> decide) (fun j hj => by
    match j, hj with
    | 0, _ => decide +kernel
    | 1, _ => decide +kernel
    | 2, _ => decide +kernel
    | 3, _ => decide +kernel)]
  rfl
theorem lr_bes3 : bes0 lrX lr2 3 = some [(0, 61), (1, 122), (5, 244), (6, 61)] := by
  rw [bes_of lr_vc lr_ok2 (by decide) lr_bas23 (fun k => if k = 1 then 122 else if k = 2 then 244 else 61) (fun k => by show (if k = 1 then 122 else if k = 2 then 244 else 61) < 256; split; decide; split <;> decide) (fun j hj => by
    match j, hj with
    | 0, _ => decide +kernel
    | 1, _ => decide +kernel
    | 2, _ => decide +kernel
    | 3, _ => decide +kernel)]
  rfl
theorem planR_of {x : Cd} {hs : List Bool} {u : Nat} (hok : okB x hs = true) (hi : idxB hs (u : Int) = true) : planR x hs (u : Int) = (match besK x hs u x.par.length with | some l => (((u : Int), l), 0) | none => ((0, []), 11)) := by
  unfold planR
  rw [if_pos ⟨hok, hi⟩, Int.toNat_natCast]
  cases besK x hs u x.par.length <;> rfl
theorem lr_p1 : planR lrX lr1 2 = ((2, [(3, 1), (5, 1)]), 0) := by
  refine (planR_of (u := 2) lr_ok1 (by decide)).trans ?_
  have : besK lrX lr1 2 lrX.par.length = some [(3, 1), (5, 1)] := by
    unfold besK
    rw [lr_bes1]
    decide +kernel
  rw [this]; rfl
theorem lr_p2 : planR lrX lr2 2 = ((2, [(0, 61), (1, 122), (5, 245), (6, 61)]), 0) := by
  refine (planR_of (u := 2) lr_ok2 (by decide)).trans ?_
  have : besK lrX lr2 2 lrX.par.length = some [(0, 61), (1, 122), (5, 245), (6, 61)] := by
    unfold besK
    rw [lr_bes2]
    decide +kernel
  rw [this]; rfl
theorem lr_p23 : planR lrX lr2 3 = ((3, [(0, 61), (1, 122), (5, 244), (6, 61)]), 0) := by
  refine (planR_of (u := 3) lr_ok2 (by decide)).trans ?_
  have : besK lrX lr2 3 lrX.par.length = some [(0, 61), (1, 122), (5, 244), (6, 61)] := by
    unfold besK
    rw [lr_bes3]
    decide +kernel
  rw [this]; rfl
theorem lr_all : allR lrX lr2 = ([(2, [(0, 61), (1, 122), (5, 245), (6, 61)]), (3, [(0, 61), (1, 122), (5, 244), (6, 61)])], 0) := by
  unfold allR
  rw [if_pos lr_ok2]
  have : yl (fun k => planR lrX lr2 (k : Int)) 0 lr2 = [planR lrX lr2 2, planR lrX lr2 3] := rfl
  rw [this, lr_p2, lr_p23]
  rfl
theorem lr_p3 : planR lrX lr3 2 = ((0, []), 11) := by
  refine (planR_of (u := 2) lr_ok3 (by decide)).trans ?_
  have hb : basL lrX (ot lr3 2) = [0, 1, 6] := by
    have e : basL lrX (ot lr3 2) = bas 8 4 (gC lrX) (hvF (ot lr3 2)) 7 := rfl
    have e5 := lr_bas2' (hvF (ot lr3 2)) rfl rfl rfl rfl rfl
    have e6 := (bas_abs (m := 8) (n := 4) (G := gC lrX) (hv := hvF (ot lr3 2)) (k := 5) (by decide)).trans e5
    rw [e, bas_new (k := 6) rfl (by rw [e6]; exact lr_new (j := 2) (by decide) (fun k hk => by rcases (show k = 0 ∨ k = 1 by have : k < 2 := hk; omega) with rfl | rfl <;> decide) (by decide)), e6]; rfl
  have hn : ¬ recov lrX (ot lr3 2) 2 := by
    rw [recov_vc lr_vc, hb]
    rintro ⟨c, hc, h⟩
    have a2 := h 2 (by decide)
    have a3 := h 3 (by decide)
    rw [show ([0, 1, 6] : List Nat).length = 3 from rfl, cbn3] at a2 a3
    change gC lrX 2 2 = mul 8 (c 0) (gC lrX 0 2) ^^^ mul 8 (c 1) (gC lrX 1 2) ^^^ mul 8 (c 2) (gC lrX 6 2) at a2
    change gC lrX 2 3 = mul 8 (c 0) (gC lrX 0 3) ^^^ mul 8 (c 1) (gC lrX 1 3) ^^^ mul 8 (c 2) (gC lrX 6 3) at a3
    rw [show gC lrX 2 2 = 1 by decide, show gC lrX 0 2 = 0 by decide, show gC lrX 1 2 = 0 by decide, show gC lrX 6 2 = 4 by decide, mul_zeroR, mul_zeroR, Nat.zero_xor, Nat.zero_xor] at a2
    rw [show gC lrX 2 3 = 0 by decide, show gC lrX 0 3 = 0 by decide, show gC lrX 1 3 = 0 by decide, show gC lrX 6 3 = 8 by decide, mul_zeroR, mul_zeroR, Nat.zero_xor, Nat.zero_xor] at a3
    have h0 : c 2 = 0 := Classical.byContradiction fun hne => mul_ne lr_fm (hc 2) (by decide) hne (by decide) a3.symm
    rw [h0, mul_zeroL] at a2
    exact absurd a2 (by decide)
  have : besK lrX lr3 2 lrX.par.length = none := by
    cases hb : besK lrX lr3 2 lrX.par.length with
    | none => rfl
    | some l => exact absurd ((besK_iff lr_vc (hs := lr3) rfl lr_ok3 (by decide)).1 (by rw [hb]; rfl)) hn
  rw [this]
theorem lr_p4 : planR lrX [] 2 = ((0, []), 1) := if_neg (fun h => by
  have := h.1
  rw [show okB lrX [] = false by decide +kernel] at this
  cases this)
theorem lr_apply : aplR lrX 2 [(3, 1), (5, 1)] [[], [], [], [5], [], [6], []] = ([3], 0) := by decide +kernel
end Go.Proofs.YtklngodlijiccaaDoor
