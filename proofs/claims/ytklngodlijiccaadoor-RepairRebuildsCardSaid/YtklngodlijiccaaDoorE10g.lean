/-
  What stage 10 stands on, cut out of older texts. (ExpJ.)
-/
import Derived.StillTailTactics
import Derived.OwnWalk
import Derived.Laws.StructEq
import Derived.Test.YtklngodlijiccaaDoorE10a
import Derived.Test.YtklngodlijiccaaDoorE10b
import Derived.Test.YtklngodlijiccaaDoorE10c
import Derived.Test.YtklngodlijiccaaDoorE10d
import Derived.Test.YtklngodlijiccaaDoorE10e
import Derived.Test.YtklngodlijiccaaDoorE10f
namespace Go.Proofs.YtklngodlijiccaaDoor
set_option linter.unusedVariables false
set_option linter.unusedSimpArgs false
set_option linter.unusedSectionVars false

section
open Go.RowKit
set_option linter.unusedVariables false
set_option linter.unusedSimpArgs false
/-- The system: an equation for each column, the target last. -/
def sysM (p : Nat) (V : Mx) (r : Nat → Nat) : Mx := fun j k => if k < p then V k j else r j
theorem sysM_v {m p : Nat} {V : Mx} {r : Nat → Nat} (hV : Vm m V) (hr : Vv m r) : Vm m (sysM p V r) := fun j k => by
  unfold sysM; split
  · exact hV k j
  · exact hr j
open Classical in
/-- What Express answers. -/
noncomputable def expR (m n p : Nat) (V : Mx) (r : Nat → Nat) : List Int × Bool := if Dep m n p V r then (nl p (cof m n p V r), true) else ([], false)
theorem range_getD {k j : Nat} (h : j < k) : (List.range k).getD j 0 = j := by
  simp [List.getD_eq_getElem?_getD, h]
def xv (p : Nat) (c : Nat → Nat) : Nat → Nat := fun t => if t < p then c t else if t = p then 1 else 0
section
variable {m : Nat} (hm : Fm m)
include hm
theorem xv_v {p : Nat} {c : Nat → Nat} (hc : Vv m c) : Vv m (xv p c) := fun t => by
  unfold xv; split
  · exact hc t
  · split
    · exact fm_one hm
    · exact Nat.two_pow_pos m
/-- A solution of the system whose last element is 1. -/
theorem ker_sys {n p q : Nat} {V : Mx} {r c : Nat → Nat} (hV : Vm m V) (hr : Vv m r) (hc : Vv m c) (hq : q ≤ p) :
    Ker m n (q + 1) (sysM p V r) (xv q c) ↔ ∀ j, j < n → cb m q V c j = if q < p then V q j else r j := by
  unfold Ker
  have e : ∀ j, dot m (q + 1) (sysM p V r j) (xv q c) = cb m q V c j ^^^ (if q < p then V q j else r j) := fun j => by
    show sm q (fun k => mul m (sysM p V r j k) (xv q c k)) ^^^ mul m (sysM p V r j q) (xv q c q) = _
    have h1 : xv q c q = 1 := by unfold xv; rw [if_neg (Nat.lt_irrefl q), if_pos rfl]
    rw [h1, mul_oneR hm]
    congr 1
    refine sm_congr fun k hk => ?_
    have h2 : xv q c k = c k := by unfold xv; rw [if_pos hk]
    have h3 : sysM p V r j k = V k j := by unfold sysM; rw [if_pos (by omega)]
    rw [h2, h3, mul_comm hm (hV k j) (hc k)]
  constructor
  · intro h j hj
    have := h j hj
    rw [e j] at this
    exact xe this
  · intro h j hj
    rw [e j, h j hj, Nat.xor_self]
/-- The same of a matrix whose first columns are unit vectors. -/
theorem ker_unit {n q : Nat} {M : Mx} {c : Nat → Nat} (hM : Vm m M) (hc : Vv m c) (h1 : ∀ k, k < q → ∀ i, i < n → M i k = if i = k then 1 else 0) :
    Ker m n (q + 1) M (xv q c) ↔ ∀ i, i < n → M i q = if i < q then c i else 0 := by
  unfold Ker
  have e : ∀ i, i < n → dot m (q + 1) (M i) (xv q c) = (if i < q then c i else 0) ^^^ M i q := fun i hi => by
    show sm q (fun k => mul m (M i k) (xv q c k)) ^^^ mul m (M i q) (xv q c q) = _
    have h2 : xv q c q = 1 := by unfold xv; rw [if_neg (Nat.lt_irrefl q), if_pos rfl]
    rw [h2, mul_oneR hm]
    congr 1
    by_cases hq : i < q
    · rw [if_pos hq, sm_one hq fun k hk hne => by rw [h1 k hk i hi, if_neg (fun q => hne q.symm), mul_zeroL], h1 i hq i hi, if_pos rfl]
      have : xv q c i = c i := by unfold xv; rw [if_pos hq]
      rw [this, mul_oneL hm (hc i)]
    · rw [if_neg hq]
      exact sm_zero fun k hk => by rw [h1 k hk i hi, if_neg (by omega), mul_zeroL]
  constructor
  · intro h i hi
    have := h i hi
    rw [e i hi] at this
    exact (xe this).symm
  · intro h i hi
    rw [e i hi, h i hi, Nat.xor_self]
section
variable {n p : Nat} {V : Mx} {r : Nat → Nat} (hV : Vm m V) (hr : Vv m r) (hi : Ind m n p V)
include hV hr hi
/-- Elimination finds a pivot for each unknown. -/
theorem exp_all : ∀ k, k ≤ p → (red m n (sysM p V r) k).2 = List.range k ∧ (k < p → prow (red m n (sysM p V r) k).1 n k k < n)
  | k, hk => by
    have hS := sysM_v (p := p) hV hr
    have h2 : (red m n (sysM p V r) k).2 = List.range k := by
      cases k with
      | zero => rfl
      | succ k =>
        obtain ⟨h3, h4⟩ := exp_all k (by omega)
        have h5 := h4 (by omega)
        show (stp m n k (red m n (sysM p V r) k)).2 = _
        unfold stp
        rw [h3, List.length_range, if_pos h5, List.range_succ]
    refine ⟨h2, fun hlt => Nat.lt_of_not_le fun hge => ?_⟩
    have hRd := red_rd hm n hS k
    rw [h2] at hRd
    generalize (red m n (sysM p V r) k).1 = M at hRd hge
    have hkn : k ≤ n := by have := hRd.len; rwa [List.length_range] at this
    have hz : ∀ i, k ≤ i → i < n → M i k = 0 := fun i h1 h3 => prow_zero (R := n) i h1 (by omega)
    have h1 : ∀ j, j < k → ∀ i, i < n → M i j = if i = j then 1 else 0 := fun j hj i hi => by
      have := hRd.one j (by rw [List.length_range]; exact hj) i hi
      rwa [range_getD hj] at this
    have hc : Vv m fun i => M i k := fun i => hRd.v i k
    have hK := (ker_unit hm (n := n) (q := k) hRd.v hc h1).2 fun i hi => by
      by_cases h : i < k
      · rw [if_pos h]
      · rw [if_neg h]; exact hz i (by omega) hi
    have hK2 := (hRd.ker (k + 1) _ (xv_v hm hc)).1 hK
    have hK3 := (ker_sys hm hV hr hc (show k ≤ p by omega)).1 hK2
    have hI : Ind m n (k + 1) V := hi.prefix_ (by omega)
    have := hI (xv k fun i => M i k) (xv_v hm hc) (fun j hj => by
      show sm k (fun t => mul m (xv k (fun i => M i k) t) (V t j)) ^^^ mul m (xv k (fun i => M i k) k) (V k j) = 0
      have h2 : xv k (fun i => M i k) k = 1 := by unfold xv; rw [if_neg (Nat.lt_irrefl k), if_pos rfl]
      have h4 := hK3 j hj
      rw [if_pos hlt] at h4
      rw [h2, mul_oneL hm (hV k j), ← h4, sm_congr (g := fun t => mul m (M t k) (V t j)) fun t ht => by
        have : xv k (fun i => M i k) t = M t k := by unfold xv; rw [if_pos ht]
        rw [this]]
      exact Nat.xor_self _) k (Nat.lt_succ_self k)
    have h2 : xv k (fun i => M i k) k = 1 := by unfold xv; rw [if_neg (Nat.lt_irrefl k), if_pos rfl]
    rw [h2] at this
    exact absurd this (by decide)
theorem exp_next {k : Nat} (hk : k < p) : (red m n (sysM p V r) (k + 1)).1 = clr m (swp (red m n (sysM p V r) k).1 k (prow (red m n (sysM p V r) k).1 n k k)) k k := by
  obtain ⟨h1, h2⟩ := exp_all hm hV hr hi k (by omega)
  have h3 := h2 hk
  show (stp m n k (red m n (sysM p V r) k)).1 = _
  unfold stp
  rw [h1, List.length_range, if_pos h3]
theorem exp_one (k : Nat) (hk : k < p) (i : Nat) (hin : i < n) : (red m n (sysM p V r) p).1 i k = if i = k then 1 else 0 := by
  have hRd := red_rd hm n (sysM_v (p := p) hV hr) p
  rw [(exp_all hm hV hr hi p (Nat.le_refl p)).1] at hRd
  have := hRd.one k (by rw [List.length_range]; exact hk) i hin
  rwa [range_getD hk] at this
theorem exp_ker {c : Nat → Nat} (hc : Vv m c) : (∀ j, j < n → r j = cb m p V c j) ↔ ∀ i, i < n → (red m n (sysM p V r) p).1 i p = if i < p then c i else 0 := by
  have hRd := red_rd hm n (sysM_v (p := p) hV hr) p
  have h1 := ker_unit hm (n := n) (q := p) (c := c) hRd.v hc (exp_one hm hV hr hi)
  have h2 := ker_sys hm (n := n) hV hr hc (Nat.le_refl p)
  have h3 := hRd.ker (p + 1) _ (xv_v hm (p := p) hc)
  rw [← h1, h3, h2]
  exact ⟨fun h j hj => by rw [if_neg (Nat.lt_irrefl p)]; exact (h j hj).symm, fun h j hj => by have := h j hj; rw [if_neg (Nat.lt_irrefl p)] at this; exact this.symm⟩
theorem exp_dep : Dep m n p V r ↔ ∀ q, p ≤ q → q < n → (red m n (sysM p V r) p).1 q p = 0 := by
  have hv := (red_rd hm n (sysM_v (p := p) hV hr) p).v
  constructor
  · rintro ⟨c, hc, h⟩ q h1 h2
    have := (exp_ker hm hV hr hi hc).1 h q h2
    rwa [if_neg (by omega)] at this
  · intro h
    refine ⟨fun i => (red m n (sysM p V r) p).1 i p, fun i => hv i p, (exp_ker hm hV hr hi fun i => hv i p).2 fun i hin => ?_⟩
    by_cases e : i < p
    · rw [if_pos e]
    · rw [if_neg e]; exact h i (by omega) hin
theorem exp_cof (h : ∀ q, p ≤ q → q < n → (red m n (sysM p V r) p).1 q p = 0) : ∀ k, k < p → cof m n p V r k = (red m n (sysM p V r) p).1 k p := by
  have hv := (red_rd hm n (sysM_v (p := p) hV hr) p).v
  refine cof_is hi (fun i => hv i p) ((exp_ker hm hV hr hi fun i => hv i p).2 fun i hin => ?_)
  by_cases e : i < p
  · rw [if_pos e]
  · rw [if_neg e]; exact h i (by omega) hin
theorem expR_no {q : Nat} (h1 : p ≤ q) (h2 : q < n) (h3 : (red m n (sysM p V r) p).1 q p ≠ 0) : expR m n p V r = ([], false) := by
  unfold expR
  exact if_neg fun h => h3 ((exp_dep hm hV hr hi).1 h q h1 h2)
theorem expR_yes (h : ∀ q, p ≤ q → q < n → (red m n (sysM p V r) p).1 q p = 0) : expR m n p V r = (nl p fun k => (red m n (sysM p V r) p).1 k p, true) := by
  unfold expR
  rw [if_pos ((exp_dep hm hV hr hi).2 h), nl_congr (exp_cof hm hV hr hi h)]
end
end
set_option maxHeartbeats 1600000 in
set_option maxRecDepth 100000 in
theorem relim_any (m B g R n k cR ps p0 : Nat) (hm : Fm m) (D : RD) (M : Mx) (hM : Vm m M) (w : World) (hps : ps < B) (h : EM w B g R n D M) (hbox : Blk w ps 114 (syC (m : Int) (.slice (some ⟨g, 0, none⟩) R cR))) (hn : n ≤ 100) (hR : R ≤ 100) (hkR : k ≤ R) (hkn : k < n) (hp : prow M R k k = p0) (hpR : p0 < R) :
    Calls Tryd.prog 85 #[.pointer (some ⟨ps, 0, none⟩), .int .i64 (k : Int), .int .i64 (k : Int)] w fun e w' => e = .returned (.bool true) ∧ Below B w w' ∧ ∃ D', EM w' B g R n D' (clr m (swp M k p0) k k) := by
  have hz : ∀ i, k ≤ i → i < p0 → M i k = 0 := fun i h1 h2 => prow_zero (R := R) i h1 (by omega)
  have hnz : M p0 k ≠ 0 := by have := prow_ne (M := M) (col := k) hkR (by omega); rwa [hp] at this
  have hkp : k ≤ p0 := by have := (prow_le (M := M) (col := k) hkR).1; omega
  have h0n : 0 < n := by omega
  have HE := hideIt h
  have HBX := hideIt hbox
  have HM := hideIt hM
  have HFM := hideIt hm
  have HZ := hideIt hz
  have HNZ := hideIt hnz
  have HPS := hideIt hps
  have hkni : (k : Int) < (n : Int) := by omega
  clear h hbox hM hm hz hnz hps hp
  go_enter Tryd.func85, Tryd.ntmps85
  go_wp2_with fail
  go_loopg [7] (p0 - k) (fun gj s7 W => ∃ i : Nat, i + gj = p0 ∧ k ≤ i ∧ s7 = .int .i64 (i : Int) ∧ W = w)
  case atStart => exact ⟨k, by omega, Nat.le_refl _, rfl, rfl⟩
  case round =>
    obtain ⟨i, hij, hki, rfl, rfl⟩ := hrel
    obtain ⟨w, rfl⟩ : ∃ x, x = wr := ⟨wr, rfl⟩
    have hiR : i < R := by omega
    have hdr := HE.out.hdr i hiR
    have hrw := HE.out.row i hiR
    rw [hrw.adr h0n] at hdr
    have hcell := hrw.cell k hkn
    have b1 : w.cell? ⟨ps, 1, none⟩ = some (.slice (some ⟨g, 0, none⟩) R cR) := HBX.out.cell 1
    have hiRi : (i : Int) < (R : Int) := by omega
    clear hrw
    by_cases hlt : i < p0
    · have hinc := inc_c 3 i (by omega)
      have hnq := int_eqlT 3 (a := ((M i k : Nat) : Int)) (b := 0) (by rw [HZ.out i hki hlt]; rfl)
      generalize M i k = x at hcell hnq
      go_wp2_with fail
      go_roundg (gk - 1)
      case measure => omega
      case rel => exact ⟨i + 1, by omega, by omega, by go_num, rfl⟩
    · obtain rfl : i = p0 := by omega
      have hnq := int_eqlF 3 (a := ((M i k : Nat) : Int)) (b := 0) (by have := HNZ.out; omega)
      have hq2 := int_eqlF 3 (a := (i : Int)) (b := (R : Int)) (by omega)
      have hkR2 : k < R := by omega
      have hkRi : (k : Int) < (R : Int) := by omega
      have hdr2 := HE.out.hdr k hkR2
      rw [(HE.out.row k hkR2).adr h0n] at hdr2
      have hfr1 := HE.out.hfr i hiR
      have hfr2 := HE.out.hfr k hkR2
      have HSW := hideIt (fun (W W1 : World) (hb : Below w.heap.size w W) (hw1 : Below W.heap.size (W.setCell ⟨g, i, none⟩ (.slice (D.ad k) n (D.c k))) W1) => EM.swap2 (HE.out.below hb) hkR2 hiR W1 hw1)
      rw [(HE.out.row k hkR2).adr h0n, (HE.out.row i hiR).adr h0n] at HSW
      have HLO := hideIt (show B ≤ g from HE.out.gB)
      have HPG := hideIt (show ps ≠ g by have := HLO.out; have := HPS.out; omega)
      have HD1 : Hid ((D.swap k i).b k = D.b i ∧ (D.swap k i).o k = D.o i ∧ (D.swap k i).c k = D.c i) := hideIt (by simp [RD.swap])
      have HDR1 := hideIt hdr
      have HDR2 := hideIt hdr2
      have HGL := hideIt HE.out.glt
      obtain ⟨xi, hxi⟩ : ∃ x, x = M i k := ⟨_, rfl⟩
      rw [← hxi] at hcell hnq
      have HXI := hideIt hxi
      have HFR2 := hideIt hfr2
      clear hlt hij hxi hki
      generalize D.b i = bx at *
      generalize D.o i = ox at *
      generalize D.c i = cx at *
      generalize D.b k = by0 at *
      generalize D.o k = oy at *
      generalize D.c k = cy at *
      go_wp2_with fail
      refine still_tail 12 (by kernel_rfl) (by kernel_rfl) ?_
      intro w1 hw1
      have d1 : w1.cell? ⟨ps, 1, none⟩ = some (.slice (some ⟨g, 0, none⟩) R cR) := by rw [hw1]; exact b1
      have d2 : w1.cell? ⟨g, k, none⟩ = some (.slice (some ⟨by0, oy, none⟩) n cy) := by rw [hw1]; exact hdr2
      have d3 : w1.cell? ⟨g, i, none⟩ = some (.slice (some ⟨bx, ox, none⟩) n cx) := by rw [hw1]; exact hdr
      have d4 : w1.frozen? ⟨g, i, none⟩ = false := by rw [hw1]; exact hfr1
      have HB1 := hideIt (show Below w.heap.size w w1 by rw [hw1]; exact (Below.refl _ w).drew)
      have HW1 := hideIt hw1
      clear b1 hdr2 hdr hfr1 hfr2 hcell hw1
      simp only [List.take_succ_cons, List.take_zero, List.drop_succ_cons, List.drop_zero]
      repeat still_step
      refine wpStill_nil ?_
      obtain ⟨w2, hw2⟩ : ∃ W, W = w1.setCell ⟨g, i, none⟩ (.slice (some ⟨by0, oy, none⟩) n cy) := ⟨_, rfl⟩
      have hs2 : Sel (fun b _ => b = g) w1 w2 := by rw [hw2]; exact (Sel.refl (fun b _ => b = g) w1).setCell (S := fun b _ => b = g) rfl _
      have hps1 : ps < w1.heap.size := Nat.lt_of_lt_of_le HBX.out.lt HB1.out.size
      have hg1 : g < w1.heap.size := Nat.lt_of_lt_of_le HGL.out HB1.out.size
      have e1 : w2.cell? ⟨ps, 1, none⟩ = some (.slice (some ⟨g, 0, none⟩) R cR) := (hs2.cell ps 1 hps1 HPG.out).trans d1
      have e2 : w2.cell? ⟨g, k, none⟩ = some (.slice (some ⟨by0, oy, none⟩) n cy) := by
        by_cases e : k = i
        · subst e; rw [hw2]; exact World.cell?_setCell_same' _ _ _ (by rw [d2]; rfl)
        · rw [hw2, World.cell?_setCell_other _ _ _ _ (by intro hh; injection hh with _ hh; omega)]; exact d2
      have e3 : w2.frozen? ⟨g, k, none⟩ = false := by rw [hs2.frozen g k hg1, HW1.out]; exact HFR2.out
      obtain ⟨w3, hw3⟩ : ∃ W, W = w2.setCell ⟨g, k, none⟩ (.slice (some ⟨bx, ox, none⟩) n cx) := ⟨_, rfl⟩
      have HE3 : Hid (EM w3 B g R n (D.swap k i) (swp M k i)) := hideIt (by rw [hw3]; exact HSW.out w1 w2 HB1.out (by rw [← hw2]; exact Below.refl _ _))
      have HB3 : Hid (Below B w w3) := hideIt (by
        have h1 : Below B w w1 := HB1.out.mono (by have := HLO.out; have := HGL.out; omega)
        have h2 : Below B w w2 := by rw [hw2]; exact h1.setCell (p := ⟨g, i, none⟩) HLO.out _
        rw [hw3]; exact h2.setCell (p := ⟨g, k, none⟩) HLO.out _)
      have HBX3 := hideIt (HBX.out.kept HB3.out HPS.out)
      have HN0 : Hid (swp M k i k k = xi) := hideIt (by rw [HXI.out]; unfold swp; rw [if_pos rfl])
      have HNV := hideIt (swp_v HM.out k i)
      clear hs2 hps1 hg1 d1 d2 HDR1 HDR2
      obtain ⟨N, hN⟩ : ∃ N, N = swp M k i := ⟨_, rfl⟩
      rw [← hN] at HE3 HN0 HNV
      have HNS := hideIt hN
      clear hN
      generalize D.swap k i = D2 at *
      have e2' : w2.cell? ⟨g, k, none⟩ = some (.slice (some ⟨by0, oy, none⟩) n cy) := e2
      have hw3' := hw3
      rw [hw2] at e1 e2' e3 hw3'
      clear hw2 hw3 e2
      go_wp2_with fail
      rw [← hw3']
      have b0 : w3.cell? ⟨ps, 0, none⟩ = some (.int .i64 (m : Int)) := HBX3.out.cell 0
      have hcell : w3.cell? ⟨bx, ox + k, none⟩ = some (.int .i64 (xi : Int)) := by
        have := (HE3.out.row k hkR2).cell k hkn
        rwa [HD1.out.1, HD1.out.2.1, HN0.out] at this
      have HIV := hideIt (fun W => rinverse8_any m xi HFM.out (by rw [HXI.out]; exact HM.out i k) (by rw [HXI.out]; exact HNZ.out) W)
      have HIN : Hid (inv m xi = inv m (N k k)) := hideIt (by rw [HN0.out])
      have HIL := hideIt (inv_lt HFM.out xi)
      have HSA := hideIt (fun r q (hq : q < n) => sclK_all HFM.out HNV.out k k n r q hq)
      rw [← HIN.out] at HSA
      generalize inv m xi = iv0 at *
      clear e1 e2' e3 d3 d4 HFR2 hw3'
      go_quiet ((go_at_call 97; refine (HIV.out _).mono ?_; rintro e w' ⟨rfl, hw⟩; exact ⟨rfl, _, hw.symm⟩))
      obtain ⟨w4, hw4⟩ : ∃ W, W = w3.drewN nq := ⟨_, rfl⟩
      try rw [← hw4]
      have HE4 := hideIt (show EM w4 B g R n D2 N by rw [hw4]; exact HE3.out.below (below_drewN (Below.refl _ _) _))
      have HB4 := hideIt (show Below B w w4 by rw [hw4]; exact below_drewN HB3.out _)
      clear hw4 hcell b0 HIV HE3 HB3 HBX3 hnq HXI HN0 HNZ
      go_wp2_with fail
      go_loopg [10] n (fun gj s10 W => ∃ j : Nat, j + gj = n ∧ s10 = .int .i64 (j : Int) ∧ Aside (EM W B g R n D2 (sclK m iv0 N k j)) ∧ Aside (Below B w W))
      case atStart => exact ⟨0, by omega, rfl, HE4.out.congr (fun r q _ _ => (sclK_zero m iv0 N k r q).symm), HB4.out⟩
      case round =>
        obtain ⟨j, hj, rfl, HK, HBK⟩ := hrel
        obtain ⟨w5, rfl⟩ : ∃ x, x = wr := ⟨wr, rfl⟩
        by_cases hltj : j < n
        · have hji : (j : Int) < (n : Int) := by omega
          have hincj := inc_c 3 j (by omega)
          have HBX5 := hideIt (HBX.out.kept HBK.out HPS.out)
          have b0 : w5.cell? ⟨ps, 0, none⟩ = some (.int .i64 (m : Int)) := HBX5.out.cell 0
          have hc1 := (HK.out.row k hkR2).cell j hltj
          have hf1 := HK.out.free k hkR2 j hltj
          rw [HD1.out.1, HD1.out.2.1] at hc1 hf1
          rw [sclK_at] at hc1
          have HTI := hideIt (fun W => (rtimes8_any m iv0 (N k j) HFM.out HIL.out (HNV.out k j) W).mono (R' := fun e w' => e = .returned (.int .i64 ((mul m iv0 (N k j) : Nat) : Int)) ∧ w' = W) (fun e w' h => ⟨h.1, h.2.symm⟩))
          have HST := hideIt ((HK.out.below (Below.refl _ w5).drew).setc (mul m iv0 (N k j)) hkR2 hltj)
          have HLS := hideIt ((HK.out.below (Below.refl _ w5).drew).low1 hkR2 h0n (o := ox + j) HBK.out.drew (.int .i64 ((mul m iv0 (N k j) : Nat) : Int)))
          rw [HD1.out.1, HD1.out.2.1, sclK_next m iv0 N k j _ rfl] at HST
          rw [HD1.out.1] at HLS
          clear HK HE4 HB4 HBX5 HBK
          generalize mul m iv0 (N k j) = z at *
          generalize N k j = y at *
          go_wp2_with fail
          refine still_tail 12 (by kernel_rfl) (by kernel_rfl) ?_
          intro w6 hw6
          have k0 : w6.cell? ⟨ps, 0, none⟩ = some (.int .i64 (m : Int)) := by rw [hw6]; exact b0
          have k1 : w6.cell? ⟨bx, ox + j, none⟩ = some (.int .i64 (y : Int)) := by rw [hw6]; exact hc1
          have k2 : w6.frozen? ⟨bx, ox + j, none⟩ = false := by rw [hw6]; exact hf1
          rw [← hw6] at HST HLS
          have HT6 := HTI.out w6
          clear b0 hc1 hf1 hw6 HTI
          simp only [List.take_succ_cons, List.take_zero, List.drop_succ_cons, List.drop_zero]
          repeat still_step
          still_call HT6
          repeat still_step
          refine wpStill_nil ?_
          go_wp2_with fail
          go_roundg (gk - 1)
          case measure => omega
          case rel => exact ⟨j + 1, by omega, by go_num, HST.out, HLS.out⟩
        · have hji : ¬ (j : Int) < (n : Int) := by omega
          obtain rfl : j = n := by omega
          have HE6 := hideIt (HK.out.congr (fun r q _ hq => HSA.out r q hq))
          have HB6 := hideIt HBK.out
          have b1 : w5.cell? ⟨ps, 1, none⟩ = some (.slice (some ⟨g, 0, none⟩) R cR) := (HBX.out.kept HBK.out HPS.out).cell 1
          clear HK HBK HE4 HB4 HSA
          go_wp2_with fail
          clear b1
          obtain ⟨g2, rfl⟩ : ∃ x, x = gk := ⟨gk, rfl⟩
          go_loopg [11] R (fun gi s11 W => ∃ x : Nat, x + gi = R ∧ s11 = .int .i64 (x : Int) ∧ Aside (EM W B g R j D2 (half m N k k x)) ∧ Aside (Below B w W))
          case atStart => exact ⟨0, by omega, rfl, HE6.out, HB6.out⟩
          case round =>
            obtain ⟨x, hx, rfl, HL, HBL⟩ := hrel
            obtain ⟨w7, rfl⟩ : ∃ x, x = wr := ⟨wr, rfl⟩
            have b1 : w7.cell? ⟨ps, 1, none⟩ = some (.slice (some ⟨g, 0, none⟩) R cR) := (HBX.out.kept HBL.out HPS.out).cell 1
            by_cases hxR : x < R
            · have hxi : (x : Int) < (R : Int) := by omega
              have hinc := inc_c 3 x (by omega)
              have hdr := HL.out.hdr x hxR
              have hrw := HL.out.row x hxR
              rw [hrw.adr h0n] at hdr
              have hcell := hrw.cell k hkn
              clear hrw
              by_cases hxt : x = k
              · have hnq := int_eqlT 3 (a := (x : Int)) (b := (k : Int)) (by omega)
                have HE7 := hideIt (show EM w7 B g R j D2 (half m N k k (x + 1)) by have h := HL.out; rw [show half m N k k x = half m N k k (x + 1) by rw [hxt]; exact half_skip m N k k] at h; exact h)
                clear hxt HL
                generalize half m N k k x x k = y0 at hcell
                go_wp2_with fail
                go_roundg (gk - 1)
                case measure => omega
                case rel => exact ⟨x + 1, by omega, by go_num, HE7.out, HBL.out⟩
              · have hnq := int_eqlF 3 (a := (x : Int)) (b := (k : Int)) (by omega)
                rw [half_at hxt] at hcell
                by_cases hz : N x k = 0
                · have hzq := int_eqlT 3 (a := ((N x k : Nat) : Int)) (b := 0) (by omega)
                  have HE7 := hideIt (show EM w7 B g R j D2 (half m N k k (x + 1)) by have h := HL.out; rw [half_skip0 m N k k x hz] at h; exact h)
                  clear hxt HL hz
                  generalize N x k = y0 at hcell hzq
                  go_wp2_with fail
                  go_roundg (gk - 1)
                  case measure => omega
                  case rel => exact ⟨x + 1, by omega, by go_num, HE7.out, HBL.out⟩
                · have hzq := int_eqlF 3 (a := ((N x k : Nat) : Int)) (b := 0) (by omega)
                  have HE7 := hideIt HL.out
                  have HB7 := hideIt HBL.out
                  have HXT := hideIt hxt
                  obtain ⟨f, hf⟩ : ∃ f, f = N x k := ⟨_, rfl⟩
                  rw [← hf] at hcell hzq
                  have HF := hideIt hf
                  have hbxx : D2.b x = D2.b x := rfl
                  clear hxt HL HBL hz hf hbxx
                  obtain ⟨g3, rfl⟩ : ∃ x, x = gk := ⟨gk, rfl⟩
                  go_wp2_with fail
                  clear b1 hcell hnq hzq hdr
                  go_loopg [13] j (fun gk s13 W => ∃ q : Nat, q + gk = j ∧ s13 = .int .i64 (q : Int) ∧ Aside (EM W B g R j D2 (mixK (half m N k k x) (half m N k k (x + 1)) x q)) ∧ Aside (Below B w W))
                  case atStart => exact ⟨0, by omega, rfl, HE7.out.congr (fun r q _ _ => (mixK_zero _ _ x r q).symm), HB7.out⟩
                  case round =>
                    obtain ⟨q, hq, rfl, HJ, HBJ⟩ := hrel
                    obtain ⟨w8, rfl⟩ : ∃ x, x = wr := ⟨wr, rfl⟩
                    by_cases hltq : q < j
                    · have hqi : (q : Int) < (j : Int) := by omega
                      have hincq := inc_c 3 q (by omega)
                      have b0 : w8.cell? ⟨ps, 0, none⟩ = some (.int .i64 (m : Int)) := (HBX.out.kept HBJ.out HPS.out).cell 0
                      have b1 : w8.cell? ⟨ps, 1, none⟩ = some (.slice (some ⟨g, 0, none⟩) R cR) := (HBX.out.kept HBJ.out HPS.out).cell 1
                      have hdr := HJ.out.hdr x hxR
                      have hrw := HJ.out.row x hxR
                      rw [hrw.adr h0n] at hdr
                      have hc1 := hrw.cell q hltq
                      have hc2 := (HJ.out.row k hkR2).cell q hltq
                      have hf1 := HJ.out.free x hxR q hltq
                      rw [HD1.out.1, HD1.out.2.1] at hc2
                      rw [mixK_at] at hc1 hc2
                      have hfv : f < 2 ^ m := by rw [HF.out]; exact HNV.out x k
                      have hhv := half_v HFM.out HNV.out k k x
                      have HTI := hideIt (fun W => (rtimes8_any m f (half m N k k x k q) HFM.out hfv (hhv k q) W).mono (R' := fun e w' => e = .returned (.int .i64 ((mul m f (half m N k k x k q) : Nat) : Int)) ∧ w' = W) (fun e w' h => ⟨h.1, h.2.symm⟩))
                      have hxo := nxor 3 (half m N k k x x q) (mul m f (half m N k k x k q)) (Nat.lt_of_lt_of_le (hhv x q) (Nat.le_trans (fm_big HFM.out) (by decide))) (Nat.lt_of_lt_of_le (mul_lt HFM.out _ hfv) (Nat.le_trans (fm_big HFM.out) (by decide)))
                      have HNX := hideIt (mixK_next (half m N k k x) (half m N k k (x + 1)) x q (half m N k k x x q ^^^ mul m f (half m N k k x k q)) (by rw [HF.out]; exact half_new HFM.out HNV.out HXT.out q))
                      have HST := hideIt ((HJ.out.below (Below.refl _ w8).drew).setc (half m N k k x x q ^^^ mul m f (half m N k k x k q)) hxR hltq)
                      have HLS := hideIt ((HJ.out.below (Below.refl _ w8).drew).low1 hxR h0n (o := D2.o x + q) HBJ.out.drew (.int .i64 ((half m N k k x x q ^^^ mul m f (half m N k k x k q) : Nat) : Int)))
                      rw [HNX.out] at HST
                      clear hrw HJ HE7 HB7 hfv hhv HNX HBJ
                      generalize mul m f (half m N k k x k q) = z1 at *
                      generalize half m N k k x x q = x1 at *
                      generalize half m N k k x k q = x2 at *
                      generalize x1 ^^^ z1 = z2 at *
                      obtain ⟨bq, hbq⟩ : ∃ b, b = D2.b x := ⟨_, rfl⟩
                      obtain ⟨oq, hoq⟩ : ∃ b, b = D2.o x := ⟨_, rfl⟩
                      rw [← hbq, ← hoq] at hdr hc1 hf1 HST
                      rw [← hbq] at HLS
                      rw [← hoq] at HLS
                      generalize D2.c x = cq at *
                      clear hbq hoq
                      go_wp2_with fail
                      refine still_tail 29 (by kernel_rfl) (by kernel_rfl) ?_
                      intro w9 hw9
                      have k0 : w9.cell? ⟨ps, 0, none⟩ = some (.int .i64 (m : Int)) := by rw [hw9]; exact b0
                      have k1 : w9.cell? ⟨ps, 1, none⟩ = some (.slice (some ⟨g, 0, none⟩) R cR) := by rw [hw9]; exact b1
                      have k2 : w9.cell? ⟨g, x, none⟩ = some (.slice (some ⟨bq, oq, none⟩) j cq) := by rw [hw9]; exact hdr
                      have k3 : w9.cell? ⟨bq, oq + q, none⟩ = some (.int .i64 (x1 : Int)) := by rw [hw9]; exact hc1
                      have k4 : w9.cell? ⟨bx, ox + q, none⟩ = some (.int .i64 (x2 : Int)) := by rw [hw9]; exact hc2
                      have k5 : w9.frozen? ⟨bq, oq + q, none⟩ = false := by rw [hw9]; exact hf1
                      rw [← hw9] at HST HLS
                      have HT9 := HTI.out w9
                      clear b0 b1 hdr hc1 hc2 hf1 hw9 HTI
                      simp only [List.take_succ_cons, List.take_zero, List.drop_succ_cons, List.drop_zero]
                      repeat still_step
                      still_call HT9
                      repeat still_step
                      refine wpStill_nil ?_
                      go_wp2_with fail
                      go_roundg (gk - 1)
                      case measure => omega
                      case rel => exact ⟨q + 1, by omega, by go_num, HST.out, HLS.out⟩
                    · have hqi : ¬ (q : Int) < (j : Int) := by omega
                      obtain rfl : q = j := by omega
                      have HE9 := hideIt (HJ.out.congr (fun r c _ hq => mixK_all m N k k x q r c hq))
                      have HB9 := hideIt HBJ.out
                      clear HJ HBJ HE7 HB7
                      go_wp2_with fail
                      go_roundg (g3 - 1)
                      case measure => omega
                      case rel => exact ⟨x + 1, by omega, by go_num, HE9.out, HB9.out⟩
            · have hxi : ¬ (x : Int) < (R : Int) := by omega
              obtain rfl : x = R := by omega
              have HE10 := hideIt (HL.out.congr (fun r c hr _ => half_all m N k k x r c hr))
              have HB10 := hideIt HBL.out
              clear HL HBL
              go_wp2_with fail
              go_ret
              exact ⟨rfl, HB10.out, D2, by rw [← HNS.out]; exact HE10.out⟩
/-- A list of numbers and a truth value. -/
def ExpRes (w : World) (q : List Int × Bool) (e : Ending) (w' : World) : Prop :=
  ∃ v, e = .returned (.tuple #[v, .bool q.2]) ∧ w'.ownsRow w.heap.size 3 1 v q.1.length (q.1.map iv) ∧ Below w.heap.size w w'
theorem nl_snoc (k : Nat) (f : Nat → Nat) : nl (k + 1) f = nl k f ++ [(f k : Int)] := by unfold nl; rw [List.range_succ, List.map_append]; rfl
/-- The state between two equations. -/
def XJ (m n p B ps : Nat) (S : Mx) (w0 : World) (j : Nat) (W : World) : Prop := ∃ hd vs, XB m B ps w0 W j j hd vs (fun _ => p + 1) (fun i => (nl (p + 1) (S i)).map iv)
theorem XB.hbox {m B ps : Nat} {w0 W W' : World} {j N : Nat} {hd : Value} {vs : Nat → Value} {ks : Nat → Nat} {ls : Nat → List Value} (h : XB m B ps w0 W j N hd vs ks ls) {o : Obj} (hg : (W.alloc o).grownBy W' hd.ownBlock) : Blk W' ps 114 (syC (m : Int) hd) :=
  have h2 := h.keep (below_new W o)
  h2.box.grown hg (own_ne h2.hdr h2.box (by decide))
theorem XB.cong {m B ps : Nat} {w0 W : World} {j N : Nat} {hd : Value} {vs : Nat → Value} {ks ks' : Nat → Nat} {ls ls' : Nat → List Value} (h : XB m B ps w0 W j N hd vs ks ls) (hk : ∀ i, i < N → ks i = ks' i) (hl : ∀ i, i < N → ls i = ls' i) : XB m B ps w0 W j N hd vs ks' ls' :=
  ⟨h.box, h.hdr, h.rn.cong (fun _ _ => rfl) hk hl, h.low, h.sz, h.psl, h.lb⟩
set_option maxHeartbeats 1600000 in
set_option maxRecDepth 100000 in
theorem express_any (m n p : Nat) (hm : Fm m) (V : Mx) (hV : Vm m V) (r : Nat → Nat) (hr : Vv m r) (hi : Ind m n p V) (h0 : 0 < n) (hn : n ≤ 32) (w : World) (A : Option Addr) (c : Nat) (par : List (List Int)) (hpl : par.length = p) (hpr : ∀ k (h : k < par.length), par[k] = nl n (V k))
    (hP : PM w w.heap.size A par) (T : Option Addr) (ct : Nat) (hT : Sl w w.heap.size T 1 n ((nl n r).map iv)) :
    Calls Tryd.prog 71 #[.int .i64 (m : Int), .slice A p c, .slice T n ct] w (ExpRes w (expR m n p V r)) := by
  have hpn : p ≤ n := hi.le hm hV
  have HV := hideIt hV
  have HRV := hideIt hr
  have HFM := hideIt hm
  have HI := hideIt hi
  have HP := hideIt hP
  have HT := hideIt hT
  have HPL := hideIt hpl
  have HPR := hideIt hpr
  obtain ⟨S, hS⟩ : ∃ S, S = sysM p V r := ⟨_, rfl⟩
  have HS := hideIt hS
  obtain ⟨res, hres⟩ : ∃ res, res = expR m n p V r := ⟨_, rfl⟩
  rw [← hres]
  have HRES := hideIt hres
  clear hV hr hm hi hP hT hpl hpr hS hres
  go_enter Tryd.func71, Tryd.ntmps71
  go_wp2_with fail
  obtain ⟨W1, hW1⟩ : ∃ W, W = w.alloc (.cells #[.int .i64 (m : Int), .slice none 0 0] 114) := ⟨_, rfl⟩
  obtain ⟨ps, hps⟩ : ∃ q, q = w.heap.size := ⟨_, rfl⟩
  have HX0 : Hid (XB m (ps + 1) ps w W1 0 0 (.slice none 0 0) (fun _ => .slice none 0 0) (fun _ => p + 1) (fun i => (nl (p + 1) (S i)).map iv)) := hideIt ⟨by rw [hW1, hps]; exact Blk.new w 114 (syC (m : Int) (.slice none 0 0)), World.ownsRow_nil _ _ _ _, ⟨fun i hi => absurd hi (Nat.not_lt_zero i), fun i j hi => absurd hi (Nat.not_lt_zero i)⟩, by rw [hW1]; exact below_new w _, by rw [hW1, hps]; simp, Nat.lt_succ_self _, by rw [hps]; exact Nat.le_refl _⟩
  rw [← hW1, ← hps]
  have HPS := hideIt hps
  clear hW1 hps
  go_loopg [9] n (fun gj s9 wr => ∃ j : Nat, j + gj = n ∧ s9 = .int .i64 (j : Int) ∧ Aside (XJ m n p (ps + 1) ps S w j wr))
  case atStart => exact ⟨0, by omega, rfl, _, _, HX0.out⟩
  case round =>
    obtain ⟨j, hj, rfl, HXJ⟩ := hrel
    obtain ⟨hd, vs, hx⟩ := HXJ.out
    obtain ⟨w2, rfl⟩ : ∃ x, x = wr := ⟨wr, rfl⟩
    have HX := hideIt hx
    clear HXJ hx HX0
    by_cases hlt : j < n
    · have hji : (j : Int) < (n : Int) := by omega
      have hincj := inc_c 3 j (by omega)
      obtain ⟨g1, rfl⟩ : ∃ x, x = gk := ⟨gk, rfl⟩
      go_wp2_with fail
      go_loopg [10, 11] p (fun gk s10 s11 W => ∃ (k : Nat) (v : Value), k + gk = p ∧ s10 = v ∧ s11 = .int .i64 (k : Int) ∧ Aside (XB m (ps + 1) ps w W j (j + 1) hd (upd vs j v) (upd (fun _ => p + 1) j k) (upd (fun i => (nl (p + 1) (S i)).map iv) j ((nl k (S j)).map iv))))
      case atStart => exact ⟨0, .slice none 0 0, by omega, rfl, rfl, HX.out.eq0⟩
      case round =>
        obtain ⟨k, v, hk, rfl, rfl, HK⟩ := hrel
        obtain ⟨w3, rfl⟩ : ∃ x, x = wr := ⟨wr, rfl⟩
        have ho := HK.out.rn.own j (Nat.lt_succ_self j)
        rw [upd_at, upd_at, upd_at] at ho
        obtain ⟨A4, c4, rfl, _, _⟩ := own_form ho
        have HO := hideIt ho
        clear ho
        by_cases hltk : k < p
        · have hki : (k : Int) < (p : Int) := by omega
          have hinc := inc_c 3 k (by omega)
          have hkl : k < par.length := by rw [HPL.out]; exact hltk
          obtain ⟨b, o, A', c', hA, hb, hcell, hsl⟩ := (HP.out.below HK.out.low).row hkl
          rw [HPR.out k hkl] at hcell hsl
          rw [nl_len] at hcell hsl
          obtain ⟨b2, o2, u, hA2, hb2, hu, hc2⟩ := hsl.at_ hlt
          rw [iv_at hlt] at hu
          injection hu with hu
          subst hA hA2 hu
          have HSK := hideIt (show (V k j : Int) = (S j k : Int) by rw [HS.out]; unfold sysM; rw [if_pos hltk])
          rw [HSK.out] at hc2
          have HNX := hideIt (nl_snoc k (S j))
          clear hb hb2 hsl hkl
          generalize S j k = y at *
          go_wp2_with (first
            | ((with_reducible refine at_append ?_); refine wpList_apI (y := (y : Int)) (n := k) rfl (.tmp 32) (.tmp 40) rfl rfl HO.out rfl (by omega) HK.out.sz ?_; intro v6 w6 HO6 HG6 HA6 HB6))
          go_roundg (gk - 1)
          case measure => omega
          case rel => exact ⟨k + 1, v6, by omega, rfl, by go_num, by rw [HNX.out]; exact HK.out.app HO6.out HG6.out HA6.out⟩
        · have hki : ¬ (k : Int) < (p : Int) := by omega
          obtain rfl : k = p := by omega
          obtain ⟨b2, o2, u, hA2, hb2, hu, hc2⟩ := (HT.out.below HK.out.low).at_ hlt
          rw [iv_at hlt] at hu
          injection hu with hu
          subst hA2 hu
          have HSK := hideIt (show (r j : Int) = (S j k : Int) by rw [HS.out]; unfold sysM; rw [if_neg (Nat.lt_irrefl k)])
          rw [HSK.out] at hc2
          have HNX := hideIt (nl_snoc k (S j))
          clear hb2
          generalize S j k = y at *
          obtain ⟨Ah, ch, rfl, _, _⟩ := own_form HK.out.hdr
          go_wp2_with (first
            | ((with_reducible refine at_append ?_); refine wpList_apI (y := (y : Int)) (n := k) rfl (.tmp 42) (.tmp 47) rfl rfl HO.out rfl (by omega) HK.out.sz ?_; intro v6 w6 HO6 HG6 HA6 HB6; have HX6 := hideIt (HK.out.app HO6.out HG6.out HA6.out); have b1 : w6.cell? ⟨ps, 1, none⟩ = some (.slice Ah j ch) := HX6.out.box.cell 1; obtain ⟨A6, c6, e6, _, _⟩ := own_form HO6.out; subst e6)
            | ((with_reducible refine at_append ?_); refine wpList_apR (A := A6) (k := k + 1) (c := c6) (n := j) rfl (.tmp 53) (.tmp 55) rfl rfl HX6.out.hdr rfl (by omega) HX6.out.sz ?_; intro v7 w7 HO7 HG7 HA7 HB7; have hb7 := HX6.out.hbox HG7.out; have b17 : w7.cell? ⟨ps, 1, none⟩ = some (.slice Ah j ch) := hb7.cell 1; have f17 : w7.frozen? ⟨ps, 1, none⟩ = false := hb7.free 1; clear hb7 b1; obtain ⟨A7, c7, e7, _, _⟩ := own_form HO7.out; subst e7))
          go_roundg (g1 - 1)
          case measure => omega
          case rel =>
            refine ⟨j + 1, by omega, by go_num, _, _, (HX6.out.happ ?_ HG7.out).cong (fun i hi => ?_) (fun i hi => ?_)⟩
            · rw [List.range_succ, List.map_append, show [j].map (upd vs j (.slice A6 (k + 1) c6)) = [.slice A6 (k + 1) c6] by simp [upd_at]]
              exact HO7.out
            · by_cases e : i = j
              · rw [e, upd_at]
              · rw [upd_ne _ _ e]
            · by_cases e : i = j
              · rw [e, upd_at]
                show _ = (nl (k + 1) (S j)).map iv
                rw [HNX.out]
              · rw [upd_ne _ _ e]
    · have hji : ¬ (j : Int) < (n : Int) := by omega
      obtain rfl : j = n := by omega
      obtain ⟨g, cap, D, rfl, hem⟩ := EM.of_rows h0 (Nat.succ_pos p) HX.out.hdr HX.out.rn
      have HEM := hideIt hem
      have HBX := hideIt HX.out.box
      have HLW := hideIt HX.out.low
      have HSM := hideIt (show Vm m S by rw [HS.out]; exact sysM_v HV.out HRV.out)
      have HALL := hideIt (fun k (hk : k ≤ p) => exp_all HFM.out HV.out HRV.out HI.out k hk)
      have HNXT := hideIt (fun k (hk : k < p) => exp_next HFM.out HV.out HRV.out HI.out hk)
      have HNO := hideIt (fun q h1 h2 h3 => expR_no HFM.out HV.out HRV.out HI.out (q := q) h1 h2 h3)
      have HYES := hideIt (fun h => expR_yes HFM.out HV.out HRV.out HI.out h)
      have HRV2 := hideIt (fun c => (red_rd HFM.out j HSM.out c).v)
      rw [← HS.out, ← HRES.out] at HNO HYES
      rw [← HS.out] at HALL HNXT
      clear hem HX HV HRV HI HS HRES hlt hji
      go_wp2_with fail
      go_loopg [12] p (fun gk s12 W => ∃ k : Nat, k + gk = p ∧ s12 = .int .i64 (k : Int) ∧ Aside (∃ D', EM W (ps + 1) g j (p + 1) D' (red m j S k).1) ∧ Aside (Below (ps + 1) w2 W))
      case atStart => exact ⟨0, by omega, rfl, ⟨D, HEM.out⟩, Below.refl _ _⟩
      case round =>
        obtain ⟨k, hk, rfl, HE, HBW⟩ := hrel
        obtain ⟨w3, rfl⟩ : ∃ x, x = wr := ⟨wr, rfl⟩
        by_cases hltk : k < p
        · have hki : (k : Int) < (p : Int) := by omega
          have hinc := inc_c 3 k (by omega)
          obtain ⟨D3, hE⟩ := HE.out
          have HEL := hideIt (relim_any m (ps + 1) g j (p + 1) k cap ps _ HFM.out D3 (red m j S k).1 (HRV2.out k) w3 (Nat.lt_succ_self _) hE (HBX.out.kept HBW.out (Nat.lt_succ_self _)) (by omega) (by omega) (by omega) (by omega) rfl ((HALL.out k (by omega)).2 hltk))
          rw [← HNXT.out k hltk] at HEL
          have hnot := not_b
          clear hE HE hltk
          go_wp2_with (first
            | (go_at_call 85; refine HEL.out.mono ?_; rintro e w4 ⟨rfl, hb4, hE4⟩; have HB4 := hideIt hb4; have HE4 := hideIt hE4; clear hb4 hE4 HEL))
          go_roundg (gk - 1)
          case measure => omega
          case rel => exact ⟨k + 1, by omega, by go_num, HE4.out, HBW.out.trans HB4.out⟩
        · have hki : ¬ (k : Int) < (p : Int) := by omega
          obtain rfl : k = p := by omega
          obtain ⟨D3, hE⟩ := HE.out
          have HE3 := hideIt hE
          have HB3 := hideIt HBW.out
          have HBX3 := hideIt (HBX.out.kept HBW.out (Nat.lt_succ_self _))
          obtain ⟨M, hM⟩ : ∃ M, M = (red m j S k).1 := ⟨_, rfl⟩
          rw [← hM] at HE3 HNO HYES
          have HWL := hideIt (show Below w.heap.size w w3 from HLW.out.trans (HBW.out.mono (by rw [← HPS.out]; exact Nat.le_succ _)))
          clear hE HE HBW HEM HALL HNXT HRV2 HSM hltk hM
          obtain ⟨g2, rfl⟩ : ∃ x, x = gk := ⟨gk, rfl⟩
          go_wp2_with fail
          go_loopg [14] (j - k) (fun gk s14 W => ∃ q : Nat, q + gk = j ∧ k ≤ q ∧ s14 = .int .i64 (q : Int) ∧ W = w3 ∧ Aside (∀ i, k ≤ i → i < q → M i k = 0))
          case atStart => exact ⟨k, by omega, Nat.le_refl _, rfl, rfl, fun i h1 h2 => absurd h2 (by omega)⟩
          case round =>
            obtain ⟨q, hq, hkq, rfl, rfl, HZ⟩ := hrel
            obtain ⟨w3, rfl⟩ : ∃ x, x = wr := ⟨wr, rfl⟩
            have b1 : w3.cell? ⟨ps, 1, none⟩ = some (.slice (some ⟨g, 0, none⟩) j cap) := HBX3.out.cell 1
            by_cases hlt : q < j
            · have hqi : (q : Int) < (j : Int) := by omega
              have hdr := HE3.out.hdr q hlt
              have hrw := HE3.out.row q hlt
              rw [hrw.adr (Nat.succ_pos k)] at hdr
              have hcell := hrw.cell k (Nat.lt_succ_self k)
              have hki1 : (k : Int) < ((k + 1 : Nat) : Int) := by omega
              have hinc := inc_c 3 q (by omega)
              clear hrw
              by_cases hz : M q k = 0
              · have hnq := int_neqF6 3 (a := ((M q k : Nat) : Int)) (b := 0) (by omega)
                have HZ2 := hideIt (show ∀ i, k ≤ i → i < q + 1 → M i k = 0 from fun i h1 h2 => by
                  by_cases e : i = q
                  · rw [e]; exact hz
                  · exact HZ.out i h1 (by omega))
                clear hz
                generalize M q k = x at hcell hnq
                go_wp2_with fail
                go_roundg (gk - 1)
                case measure => omega
                case rel => exact ⟨q + 1, by omega, by omega, by go_num, rfl, HZ2.out⟩
              · have hnq := int_neqT6 3 (a := ((M q k : Nat) : Int)) (b := 0) (by omega)
                have HR := hideIt (HNO.out q hkq hlt hz)
                clear hz
                generalize M q k = x at hcell hnq
                go_wp2_with fail
                go_ret2
                rw [HR.out]
                exact ⟨_, rfl, World.ownsRow_nil _ _ _ _, HWL.out⟩
            · have hqi : ¬ (q : Int) < (j : Int) := by omega
              have HR := hideIt (HYES.out fun i h1 h2 => HZ.out i h1 (by omega))
              have hsz3 : w.heap.size ≤ w3.heap.size := HWL.out.size
              have HBX4 := hideIt (fun (W : World) (h : Below w3.heap.size w3 W) => (HBX3.out.kept h HBX3.out.lt).cell 1)
              have HE4 := hideIt (fun (W : World) (h : Below w3.heap.size w3 W) => HE3.out.below h)
              clear HYES HNO HZ hlt
              go_wp2_with fail
              clear b1
              go_loopg [15, 16] k (fun gk s15 s16 W => ∃ i : Nat, i + gk = k ∧ s16 = .int .i64 (i : Int) ∧ Aside (Below w3.heap.size w3 W) ∧ Aside (W.ownsRow w3.heap.size 3 1 s15 i ((nl i fun i => M i k).map iv)))
              case atStart => exact ⟨0, by omega, rfl, Below.refl _ _, World.ownsRow_nil _ _ _ _⟩
              case round =>
                obtain ⟨i, hi, rfl, HLI, HO⟩ := hrel
                obtain ⟨w5, rfl⟩ : ∃ x, x = wr := ⟨wr, rfl⟩
                obtain ⟨A5, c5, e5, _, _⟩ := own_form HO.out
                subst e5
                have b1 : w5.cell? ⟨ps, 1, none⟩ = some (.slice (some ⟨g, 0, none⟩) j cap) := HBX4.out w5 HLI.out
                by_cases hlt : i < k
                · have hii : (i : Int) < (k : Int) := by omega
                  have hij : (i : Int) < (j : Int) := by omega
                  have hE5 := HE4.out w5 HLI.out
                  have hdr := hE5.hdr i (by omega)
                  have hrw := hE5.row i (by omega)
                  rw [hrw.adr (Nat.succ_pos k)] at hdr
                  have hcell := hrw.cell k (Nat.lt_succ_self k)
                  have hki1 : (k : Int) < ((k + 1 : Nat) : Int) := by omega
                  have hinc := inc_c 3 i (by omega)
                  have HNX := hideIt (nl_snoc i fun i => M i k)
                  clear hrw hE5
                  generalize M i k = x at *
                  go_wp2_with (first
                    | ((with_reducible refine at_append ?_); refine wpList_apI (y := (x : Int)) (n := i) rfl (.tmp 100) (.tmp 112) rfl rfl HO.out rfl (by omega) HLI.out.size ?_; intro v6 w6 HO6 HG6 HA6 HB6))
                  go_roundg (gk - 1)
                  case measure => omega
                  case rel => exact ⟨i + 1, by omega, by go_num, HLI.out.trans HB6.out, by rw [HNX.out]; exact HO6.out⟩
                · have hii : ¬ (i : Int) < (k : Int) := by omega
                  obtain rfl : i = k := by omega
                  go_wp2_with fail
                  go_ret2
                  rw [HR.out]
                  exact ⟨_, rfl, by rw [nl_len]; exact own_base HO.out hsz3, HWL.out.trans (HLI.out.mono hsz3)⟩
/-- The reference's basis under construction: units, and rows of the call's own. -/
structure RB (W : World) (B n : Nat) (G : Mx) (bo b : List Nat) (vo vr : Value) (vs : Nat → Value) : Prop where
  out : W.ownsRow B 3 1 vo bo.length (pvC bo)
  hdr : W.ownsRow B 36 1 vr b.length ((List.range b.length).map vs)
  row : ∀ i, i < b.length → W.ownsRow B 3 1 (vs i) n ((nl n (sel G b i)).map iv) ∧ Apart vo (vs i)
  sz : B ≤ W.heap.size
section
variable {W W' : World} {B n : Nat} {G : Mx} {bo b : List Nat} {vo vr : Value} {vs : Nat → Value}
theorem RB.keep (h : RB W B n G bo b vo vr vs) (hb : Below W.heap.size W W') : RB W' B n G bo b vo vr vs :=
  ⟨own_kept h.out hb, own_kept h.hdr hb, fun i hi => ⟨own_kept (h.row i hi).1 hb, (h.row i hi).2⟩, Nat.le_trans h.sz hb.size⟩
theorem RB.start (W : World) {B : Nat} (n : Nat) (G : Mx) (hB : B ≤ W.heap.size) : RB W B n G [] [] (.slice none 0 0) (.slice none 0 0) fun _ => .slice none 0 0 :=
  ⟨World.ownsRow_nil _ _ _ _, World.ownsRow_nil _ _ _ _, fun i hi => absurd hi (Nat.not_lt_zero i), hB⟩
/-- One more unit. -/
theorem RB.unit (h : RB W B n G b b vo vr vs) {o : Obj} {v' : Value} {k : Nat} (ho : W'.ownsRow B 3 1 v' (b.length + 1) (pvC b ++ [.int .i64 (k : Int)])) (hg : (W.alloc o).grownBy W' vo.ownBlock) (hat : v'.ownBlock = vo.ownBlock ∨ v'.ownBlock = some (W.alloc o).heap.size) :
    RB W' B n G (b ++ [k]) b v' vr vs := by
  have h2 := h.keep (below_new W o)
  refine ⟨?_, h2.hdr.kept hg (own_apart2 h2.hdr h2.out (by decide)).kept, fun i hi => ⟨(h2.row i hi).1.kept hg (h2.row i hi).2.symm.kept, fun q h1 h3 => ?_⟩, Nat.le_trans h2.sz hg.size⟩
  · rw [pvC_snoc, List.length_append]; exact ho
  · rcases hat with e | e
    · rw [e] at h1; exact (h2.row i hi).2 q h1 h3
    · rw [e] at h1
      injection h1 with h1
      have := ((h2.row i hi).1.lt q h3).2
      omega
/-- One more row: made by a call, and appended. -/
theorem RB.rows (h : RB W B n G bo b vo vr vs) (hb : Below W.heap.size W W') {v : Value} {k : Nat} (hv : W'.ownsRow W.heap.size 3 1 v n ((nl n (G k)).map iv)) {o : Obj} {W2 : World} {vr' : Value}
    (ho : W2.ownsRow B 36 1 vr' (b.length + 1) ((List.range b.length).map vs ++ [v])) (hg : (W'.alloc o).grownBy W2 vr.ownBlock) : RB W2 B n G bo (b ++ [k]) vo vr' (upd vs b.length v) := by
  have h2 := (h.keep hb).keep (below_new W' o)
  have hv2 := own_kept hv (below_new W' o)
  refine ⟨h2.out.kept hg (own_apart2 h2.out h2.hdr (by decide)).kept, ?_, fun i hi => ?_, Nat.le_trans h2.sz hg.size⟩
  · rw [List.length_append, List.length_singleton, List.range_succ, List.map_append, map_upd, show [b.length].map (upd vs b.length v) = [v] by simp [upd_at]]
    exact ho
  · rw [List.length_append, List.length_singleton] at hi
    by_cases e : i = b.length
    · subst e
      rw [upd_at]
      refine ⟨?_, fun q h1 h3 => ?_⟩
      · have := own_base (hv2.kept hg (own_apart2 hv2 h2.hdr (by decide)).kept) h.sz
        have e2 : sel G (b ++ [k]) b.length = G k := by show G ((b ++ [k]).getD b.length 0) = _; rw [getD_snoc_eq rfl]
        rw [e2]; exact this
      · have := (h.out.lt q h1).2
        have := (hv.lt q h3).1
        omega
    · rw [upd_ne _ _ e]
      have h3 := h2.row i (by omega)
      have e2 : sel G (b ++ [k]) i = sel G b i := by show G ((b ++ [k]).getD i 0) = G (b.getD i 0); rw [getD_snoc_lt (by omega)]
      rw [e2]
      exact ⟨h3.1.kept hg (own_apart2 h3.1 h2.hdr (by decide)).kept, h3.2⟩
abbrev parL (n : Nat) (G : Mx) (b : List Nat) : List (List Int) := (List.range b.length).map fun i => nl n (sel G b i)
theorem RB.pm (h : RB W B n G bo b vo vr vs) : ∃ A c, vr = .slice A b.length c ∧ PM W W.heap.size A (parL n G b) := by
  obtain ⟨A, c, rfl, _, _⟩ := own_form h.hdr
  refine ⟨A, c, rfl, (List.range b.length).map vs, ?_, ?_⟩
  · rw [List.length_map, List.length_range]; exact Sl.of_own h.hdr
  · have : ∀ p, p ≤ b.length → All2 (fun (l : List Int) u => ∃ A c, u = .slice A l.length c ∧ Sl W W.heap.size A 1 l.length (l.map iv)) ((List.range p).map fun i => nl n (sel G b i)) ((List.range p).map vs) := fun p => by
      induction p with
      | zero => intro _; exact trivial
      | succ p ih =>
        intro hp
        rw [List.range_succ, List.map_append, List.map_append]
        obtain ⟨A', c', e, _, _⟩ := own_form (h.row p (by omega)).1
        refine All2.snoc ⟨A', c', by rw [nl_len, e], ?_⟩ (ih (by omega))
        have h2 := (h.row p (by omega)).1
        rw [e] at h2
        rw [nl_len]
        exact Sl.of_own h2
    exact this b.length (Nat.le_refl _)
end
theorem parL_len (n : Nat) (G : Mx) (b : List Nat) : (parL n G b).length = b.length := by simp [parL]
theorem parL_at (n : Nat) (G : Mx) (b : List Nat) (k : Nat) (h : k < (parL n G b).length) : (parL n G b)[k] = nl n (sel G b k) := by simp [parL]
/-- Express, asked for the row of a unit over the rows of a basis. -/
theorem express_b {x : Cd} {m n : Nat} (hvc : VC x m n) (b : List Nat) (hi : Ind m n b.length (sel (gC x) b)) (u : Nat) (w : World) (A : Option Addr) (c : Nat) (hP : PM w w.heap.size A (parL n (gC x) b)) (T : Option Addr) (ct : Nat) (hT : Sl w w.heap.size T 1 n ((nl n (gC x u)).map iv)) :
    Calls Tryd.prog 71 #[.int .i64 (m : Int), .slice A b.length c, .slice T n ct] w (ExpRes w (expR m n b.length (sel (gC x) b) (gC x u))) :=
  express_any m n b.length hvc.fm (sel (gC x) b) (fun i j => gC_v hvc _ j) (gC x u) (gC_v hvc u) hi hvc.pos (by have := hvc.wid; omega) w A c (parL n (gC x) b) (parL_len _ _ _) (parL_at _ _ _) hP T ct hT
theorem expR_dep {m n p : Nat} {V : Mx} {r : Nat → Nat} (h : true = (expR m n p V r).2) : Dep m n p V r := by
  unfold expR at h
  by_cases hd : Dep m n p V r
  · exact hd
  · rw [if_neg hd] at h; cases h
theorem expR_ind {m n p : Nat} {V : Mx} {r : Nat → Nat} (h : false = (expR m n p V r).2) : ¬ Dep m n p V r := fun hd => by
  unfold expR at h
  rw [if_pos hd] at h; cases h
set_option maxHeartbeats 1600000 in
set_option maxRecDepth 100000 in
theorem rbasis_any (x : Cd) (A : Option Addr) (c : Nat) (w : World) (hx : CIn w x A) (hsm : Sm x) (hs : List Bool) (D : Option Addr) (cd : Nat) (hD : Sl w w.heap.size D 1 hs.length (hs.map bl)) :
    Calls Tryd.prog 69 #[x.v A c, .slice D hs.length cd] w (IntRes w (basR x hs)) := by
  obtain ⟨W, hW⟩ : ∃ W, W = w.alloc (.cells (x.cs A c).toArray 24) := ⟨_, rfl⟩
  have hbw : Below w.heap.size w W := by rw [hW]; exact below_new w _
  have HB := hideIt hbw
  have HBC := hideIt (show BC W w.heap.size x A c by rw [hW]; exact BC.new c hx)
  have HV := hideIt (rwidth_any x A c W HBC.out.cin hsm)
  have HSD := hideIt ((hD.below hbw).wide hbw.size)
  have hq0 := i_eql 3 .i64 (wC x) 0
  have hq1 := i_neq 3 .i64 (hs.length : Int) (wC x)
  have HWE := hideIt hW
  have hnot := not_b
  obtain ⟨res, hres⟩ : ∃ r, r = basR x hs := ⟨_, rfl⟩
  rw [← hres]
  clear hbw hx hW hD hsm
  cases q1 : okB x hs with
  | true =>
    obtain ⟨m, n, hvc, hlen⟩ := VC.ok q1
    have hv : vC x = true := by unfold okB at q1; rw [Bool.and_eq_true] at q1; exact q1.1
    have hpos := hvc.pos
    have hwid := hvc.wid
    have hw : wC x = ((hs.length : Nat) : Int) := by unfold wC; rw [if_pos hv, hvc.d, hlen]; omega
    rw [hw] at HV hq0 hq1
    rw [decide_eq_false (show ¬ ((hs.length : Nat) : Int) = 0 by omega)] at hq0
    rw [decide_eq_false (show ¬ ((hs.length : Nat) : Int) ≠ ((hs.length : Nat) : Int) from fun h => h rfl)] at hq1
    have HRES : Hid (res = ((basL x hs).map fun b : Nat => (b : Int), 0)) := hideIt (by rw [hres]; unfold basR; rw [if_pos q1])
    have HVC := hideIt hvc
    have HLEN := hideIt hlen
    have hN32 : hs.length ≤ 32 := by omega
    have HBS := hideIt (basL_vc hvc hs)
    have HGV := hideIt (gC_v hvc)
    have HIND := hideIt (fun k => bas_ind (n := n) (hv := hvF hs) hvc.fm (gC_v hvc) k)
    have HFD := hideIt hvc.f
    have HLE := hideIt (fun k => bas_le (n := n) (hv := hvF hs) hvc.fm (gC_v hvc) k)
    obtain ⟨B0, hB0⟩ : ∃ b, b = W.heap.size := ⟨_, rfl⟩
    have HB0 := hideIt hB0
    clear q1 hv hw hvc hres hlen hB0
    go_enter Tryd.func69, Tryd.ntmps69
    go_wp2_with (first
      | (go_at_call 27; rw [← HWE.out]; refine HV.out.mono ?_; rintro e w1 ⟨rfl, hb1⟩; have HB1 := hideIt hb1; clear hb1 HV))
    have HRB0 := hideIt (RB.start w1 n (gC x) (show B0 ≤ w1.heap.size by rw [HB0.out]; exact HB1.out.size))
    go_loopg [7, 8, 9] hs.length (fun gk s7 s8 s9 wr => ∃ k : Nat, k + gk = hs.length ∧ s9 = .int .i64 (k : Int) ∧ Aside (∃ vs, RB wr B0 n (gC x) (bas m n (gC x) (hvF hs) k) (bas m n (gC x) (hvF hs) k) s7 s8 vs) ∧ Aside (Below W.heap.size W wr))
    case atStart => exact ⟨0, by omega, rfl, ⟨_, HRB0.out⟩, HB1.out⟩
    case round =>
      obtain ⟨k, hk, rfl, HRB, HLW⟩ := hrel
      obtain ⟨w4, rfl⟩ : ∃ x, x = wr := ⟨wr, rfl⟩
      obtain ⟨vs, hrb⟩ := HRB.out
      obtain ⟨A8, c8, rfl, hpm⟩ := hrb.pm
      obtain ⟨A7, cO, rfl, _, _⟩ := own_form hrb.out
      have HRB1 := hideIt hrb
      have HPM := hideIt hpm
      clear HRB hrb hpm HRB0
      by_cases hlt : k < hs.length
      · have hki : (k : Int) < (hs.length : Int) := by omega
        have hinc := inc_c 3 k (by omega)
        obtain ⟨b2, o2, v, hA2, hb2, hv2, hc⟩ := (HSD.out.below HLW.out).at_ hlt
        rw [List.getElem?_map, List.getElem?_eq_getElem hlt] at hv2
        injection hv2 with hv2
        subst hv2 hA2
        change w4.cell? ⟨b2, o2 + k, none⟩ = some (.bool hs[k]) at hc
        have HHV := hideIt (show hvF hs k = hs[k] by simp [hvF, List.getD_eq_getElem?_getD, hlt])
        have HBK := hideIt (HBC.out.keep HLW.out)
        have c1 := HBK.out.c1
        rw [HFD.out] at c1
        have HRR := hideIt (fun (W2 : World) (h : Below W.heap.size W W2) => rrow_own HVC.out A c W2 (HBC.out.keep h).cin k (by have := HLEN.out; omega))
        have HEX := hideIt (fun (W2 : World) T ct hP hT => express_b HVC.out (bas m n (gC x) (hvF hs) k) (HIND.out k) k W2 A8 c8 hP T ct hT)
        have HAB := hideIt (fun h : ¬ hvF hs k = true => bas_abs (m := m) (n := n) (G := gC x) h)
        have HDP := hideIt (fun h => bas_dep (m := m) (n := n) (G := gC x) (hv := hvF hs) (k := k) h)
        have HNW := hideIt (fun (h : hvF hs k = true) hd => bas_new (m := m) (n := n) (G := gC x) h hd)
        have HLB := hideIt (HLE.out k)
        have hn32 : n ≤ 32 := by omega
        rw [HHV.out] at HAB HNW
        obtain ⟨b, hB⟩ : ∃ b, b = bas m n (gC x) (hvF hs) k := ⟨_, rfl⟩
        rw [← hB] at HRB1 HPM HEX HAB HDP HNW HLB ⊢
        clear hB
        generalize hs[k] = bk at *
        clear hb2
        cases bk with
        | false =>
          have HE := hideIt (HAB.out (by decide))
          go_wp2_with fail
          go_roundg (gk - 1)
          case measure => omega
          case rel => exact ⟨k + 1, by omega, by go_num, ⟨vs, by rw [HE.out]; exact HRB1.out⟩, HLW.out⟩
        | true =>
          go_wp2_with fail
          refine loads_begin_n 12 [(6, fun W => W.cell? ⟨w.heap.size, 1, none⟩ = some (.int .i64 (m : Int))), (5, fun W => Blk W w.heap.size 24 (x.cs A c))] rfl (by kernel_rfl) ?_
          refine wpAnyL_move (oi := ⟨some 33, _, _, _, _, _⟩) 0 ?_ rfl (by kernel_rfl) (by kernel_rfl) (by kernel_rfl) (by kernel_rfl) (fun _ _ _ h => h) (by kernel_rfl) ?_ ((Hooks.add c1 (Hooks.add HBK.out.box (Hooks.nil _ _)))) ?_
          rotate_left
          · intro W'; go_simp; first | done | with_reducible rfl
          try simp only [Act.put]
          try simp only [List.setIfInBounds_toArray]
          try simp only [List.set_cons_succ]
          try simp only [List.set_cons_zero]
          refine wpAnyL_take (oi := ⟨some 34, _, _, _, _, _⟩) 1 6 (.int .i64 (m : Int)) _ rfl (by kernel_rfl) (by kernel_rfl) (by kernel_rfl) (by kernel_rfl) (by kernel_rfl) (by kernel_rfl) (.head _) (fun _ _ _ h => h) (by kernel_rfl) (fun W' hW' => by (try dsimp only at hW'); go_simp) (Hooks.add c1 (Hooks.add HBK.out.box (Hooks.nil _ _))) ?_
          try simp only [Act.put]
          try simp only [List.setIfInBounds_toArray]
          try simp only [List.set_cons_succ]
          try simp only [List.set_cons_zero]
          refine wpAnyL_move (oi := ⟨some 35, _, _, _, _, _⟩) 2 ?_ rfl (by kernel_rfl) (by kernel_rfl) (by kernel_rfl) (by kernel_rfl) (fun _ _ _ h => h) (by kernel_rfl) ?_ ((Hooks.add c1 (Hooks.add HBK.out.box (Hooks.nil _ _)))) ?_
          rotate_left
          · intro W'; go_simp; first | done | with_reducible rfl
          try simp only [Act.put]
          try simp only [List.setIfInBounds_toArray]
          try simp only [List.set_cons_succ]
          try simp only [List.set_cons_zero]
          refine wpAnyL_take (oi := ⟨some 36, _, _, _, _, _⟩) 3 5 (x.v A c) _ rfl (by kernel_rfl) (by kernel_rfl) (by kernel_rfl) (by kernel_rfl) (by kernel_rfl) (by kernel_rfl) (.tail _ (.head _)) (fun _ _ _ h => h) (by kernel_rfl) (fun W' hW' => exec_load_blk (cs := x.cs A c) rfl rfl hW' _ Tryd.underlying24 rfl isz5) (Hooks.add c1 (Hooks.add HBK.out.box (Hooks.nil _ _))) ?_
          try simp only [Act.put]
          try simp only [List.setIfInBounds_toArray]
          try simp only [List.set_cons_succ]
          try simp only [List.set_cons_zero]
          refine wpAnyL_move (oi := ⟨some 37, _, _, _, _, _⟩) 4 ?_ rfl (by kernel_rfl) (by kernel_rfl) (by kernel_rfl) (by kernel_rfl) (fun _ _ _ h => h) (by kernel_rfl) ?_ ((Hooks.add c1 (Hooks.add HBK.out.box (Hooks.nil _ _)))) ?_
          rotate_left
          · intro W'; go_simp; first | done | with_reducible rfl
          try simp only [Act.put]
          try simp only [List.setIfInBounds_toArray]
          try simp only [List.set_cons_succ]
          try simp only [List.set_cons_zero]
          refine wpAnyL_one (o := ⟨some 38, _, _, _, _, _⟩) 5 (by kernel_rfl) rfl (fun K hK => ?_)
          go_wp2_with (first
            | (go_at_call 70; refine (HRR.out _ HLW.out.drew).mono ?_; rintro e w7 ⟨b7, c7, rfl, ho7, hb7⟩))
          have hb47 : Below w4.heap.size w4 w7 := (Below.refl w4.heap.size w4).drew.trans hb7
          have HRB7 := hideIt (HRB1.out.keep hb47)
          have HL7 := hideIt (HLW.out.trans (hb47.mono HLW.out.size))
          have c17 : w7.cell? ⟨w.heap.size, 1, none⟩ = some (.int .i64 (m : Int)) := by have := (HBC.out.keep HL7.out).c1; rwa [HFD.out] at this
          have HSL7 := hideIt (Sl.of_own ho7)
          have HPM7 := hideIt ((HPM.out.below hb47).wide hb47.size)
          refine hK _ _ (Hooks.add c17 (Hooks.skip (by kernel_rfl) (Hooks.nil _ _))) ?_
          clear hK K ho7 hb7 hb47 c1 HBK HRR HPM HRB1
          try simp only [Act.put]
          try simp only [List.setIfInBounds_toArray]
          try simp only [List.set_cons_succ]
          try simp only [List.set_cons_zero]
          refine wpAnyL_one (o := ⟨some 39, _, _, _, _, _⟩) 6 (by kernel_rfl) rfl (fun K hK => ?_)
          go_wp2_with (first
            | (go_at_call 71; refine (HEX.out _ _ _ HPM7.out HSL7.out).mono ?_; rintro e w8 ⟨v8, rfl, ho8, hb8⟩))
          obtain ⟨q8, hq8⟩ : ∃ q, q = (expR m n b.length (sel (gC x) b) (gC x k)).2 := ⟨_, rfl⟩
          rw [← hq8]
          have HQ8 := hideIt hq8
          have HRB8 := hideIt (HRB7.out.keep hb8)
          have HL8 := hideIt (HL7.out.trans (hb8.mono HL7.out.size))
          refine hK _ _ (Hooks.skip (by kernel_rfl) (Hooks.skip (by kernel_rfl) (Hooks.nil _ _))) ?_
          clear hK K hq8 ho8 hb8 c17 HSL7 HPM7 HRB7 HL7 HEX
          try simp only [Act.put]
          try simp only [List.setIfInBounds_toArray]
          try simp only [List.set_cons_succ]
          try simp only [List.set_cons_zero]
          refine wpAnyL_move (oi := ⟨some 32, _, _, _, _, _⟩) 7 ?_ rfl (by kernel_rfl) (by kernel_rfl) (by kernel_rfl) (by kernel_rfl) (fun _ _ _ h => h) (by kernel_rfl) ?_ ((Hooks.skip (by kernel_rfl) (Hooks.skip (by kernel_rfl) (Hooks.nil _ _)))) ?_
          rotate_left
          · intro W'; go_simp; first | done | with_reducible rfl
          try simp only [Act.put]
          try simp only [List.setIfInBounds_toArray]
          try simp only [List.set_cons_succ]
          try simp only [List.set_cons_zero]
          refine wpAnyL_move (oi := ⟨some 40, _, _, _, _, _⟩) 8 ?_ rfl (by kernel_rfl) (by kernel_rfl) (by kernel_rfl) (by kernel_rfl) (fun _ _ _ h => h) (by kernel_rfl) ?_ ((Hooks.skip (by kernel_rfl) (Hooks.skip (by kernel_rfl) (Hooks.nil _ _)))) ?_
          rotate_left
          · intro W'; go_simp; first | done | with_reducible rfl
          try simp only [Act.put]
          try simp only [List.setIfInBounds_toArray]
          try simp only [List.set_cons_succ]
          try simp only [List.set_cons_zero]
          refine wpAnyL_move (oi := ⟨some 41, _, _, _, _, _⟩) 9 ?_ rfl (by kernel_rfl) (by kernel_rfl) (by kernel_rfl) (by kernel_rfl) (fun _ _ _ h => h) (by kernel_rfl) ?_ ((Hooks.skip (by kernel_rfl) (Hooks.skip (by kernel_rfl) (Hooks.nil _ _)))) ?_
          rotate_left
          · intro W'; go_simp; first | done | with_reducible rfl
          try simp only [Act.put]
          try simp only [List.setIfInBounds_toArray]
          try simp only [List.set_cons_succ]
          try simp only [List.set_cons_zero]
          refine loads_tail 10 (by kernel_rfl) (by kernel_rfl) (by kernel_rfl) (by kernel_rfl) ?_
          simp only [List.drop_succ_cons, List.drop_zero]
          cases q8 with
          | true =>
            have HE := hideIt (HDP.out (expR_dep HQ8.out))
            go_wp2_with fail
            go_roundg (gk - 1)
            case measure => omega
            case rel => exact ⟨k + 1, by omega, by go_num, ⟨vs, by rw [HE.out]; exact HRB8.out⟩, HL8.out⟩
          | false =>
            have HE := hideIt (HNW.out trivial (expR_ind HQ8.out))
            have HRR := hideIt (fun (W2 : World) (h : Below W.heap.size W W2) => rrow_own HVC.out A c W2 (HBC.out.keep h).cin k (by have := HLEN.out; omega))
            have HWB := hideIt (show W.heap.size ≤ B0 by rw [HB0.out]; exact Nat.le_refl _)
            go_wp2_with (first
              | ((with_reducible refine at_append ?_); refine wpList_apI (y := (k : Int)) (n := b.length) (us := nl b.length fun k => b.getD k 0) rfl (.tmp 44) (.tmp 46) rfl rfl HRB8.out.out rfl (by have := HLB.out; omega) HRB8.out.sz ?_; intro v9 w9 HO9 HG9 HA9 HB9; have HRB9 := hideIt (HRB8.out.unit (k := k) (by have := HO9.out; rw [List.map_append] at this; exact this) HG9.out HA9.out); have HL9 := hideIt (HL8.out.trans (HB9.out.mono HWB.out)); clear HO9 HG9 HA9)
              | ((with_reducible refine at_load ?_); refine wpList_ldC (by kernel_rfl) (.tmp 2) rfl (p := w.heap.size) (c := c) rfl (HBC.out.keep HL9.out).box ?_)
              | (go_at_call 70; refine (HRR.out _ HL9.out).mono ?_; rintro e w10 ⟨b10, c10, rfl, ho10, hb10⟩; have HO10 := hideIt ho10; have HB10 := hideIt hb10; have HRB10 := hideIt (HRB9.out.keep hb10); clear ho10 hb10)
              | ((with_reducible refine at_append ?_); refine wpList_apR (A := some ⟨b10, 0, none⟩) (k := n) (c := c10) (n := b.length) rfl (.tmp 48) (.tmp 52) rfl rfl HRB10.out.hdr rfl (by have := HLB.out; omega) HRB10.out.sz ?_; intro v11 w11 HO11 HG11 HA11 HB11))
            go_roundg (gk - 1)
            case measure => omega
            case rel => exact ⟨k + 1, by omega, by go_num, ⟨_, by rw [HE.out]; exact HRB9.out.rows HB10.out HO10.out HO11.out HG11.out⟩, (HL9.out.trans (HB10.out.mono HL9.out.size)).trans (HB11.out.mono HWB.out)⟩
      · have hki : ¬ (k : Int) < (hs.length : Int) := by omega
        have hke : k = hs.length := by omega
        go_wp2_with fail
        go_ret2
        rw [HRES.out, HBS.out]
        have hz : w.heap.size ≤ B0 := by rw [HB0.out]; exact HB.out.size
        have ho := own_base HRB1.out.out hz
        rw [hke] at ho
        refine ⟨_, rfl, ?_, HB.out.trans (HLW.out.mono HB.out.size)⟩
        show World.ownsRow _ _ _ _ _ (List.map _ _).length _
        rw [List.length_map, ← pvC_map]
        exact ho
  | false =>
    have HRES : Hid (res = ([], 1)) := hideIt (by rw [hres]; unfold basR; rw [if_neg (by rw [q1]; decide)])
    by_cases hz : wC x = 0
    · rw [decide_eq_true hz] at hq0
      clear q1 hz hres
      generalize wC x = z at *
      go_enter Tryd.func69, Tryd.ntmps69
      go_wp2_with (first
        | (go_at_call 27; rw [← HWE.out]; refine HV.out.mono ?_; rintro e w1 ⟨rfl, hb1⟩; have HB1 := hideIt hb1; clear hb1 HV))
      go_ret2
      rw [HRES.out]
      exact IntRes.nil (HB.out.trans (HB1.out.mono HB.out.size)) 1
    · rw [decide_eq_false hz] at hq0
      have hne : (hs.length : Int) ≠ wC x := fun h => by
        have hv : vC x = true := by
          cases hv : vC x with
          | true => rfl
          | false => exact absurd (by unfold wC; rw [hv]; rfl) hz
        unfold okB at q1
        unfold wC at h
        rw [if_pos hv] at h
        rw [hv, h, Bool.true_and, decide_eq_true rfl] at q1
        cases q1
      rw [decide_eq_true hne] at hq1
      clear q1 hz hres hne
      generalize wC x = z at *
      go_enter Tryd.func69, Tryd.ntmps69
      go_wp2_with (first
        | (go_at_call 27; rw [← HWE.out]; refine HV.out.mono ?_; rintro e w1 ⟨rfl, hb1⟩; have HB1 := hideIt hb1; clear hb1 HV))
      go_ret2
      rw [HRES.out]
      exact IntRes.nil (HB.out.trans (HB1.out.mono HB.out.size)) 1
open Classical in
/-- What coefficients answers. -/
noncomputable def crR (x : Cd) (hs : List Bool) (u : Int) : (List Int × List Int) × Int :=
  if okB x hs = true ∧ idxB hs u = true then (if recov x hs u.toNat then (((basL x hs).map fun b : Nat => (b : Int), nl (basL x hs).length (cofU x hs u.toNat)), 0) else (([], []), 11)) else (([], []), 1)
def CrRes (w : World) (r : (List Int × List Int) × Int) (e : Ending) (w' : World) : Prop :=
  ∃ vb vx, e = .returned (.tuple #[vb, vx, .int .i64 r.2]) ∧ w'.ownsRow w.heap.size 3 1 vb r.1.1.length (r.1.1.map iv) ∧ w'.ownsRow w.heap.size 3 1 vx r.1.2.length (r.1.2.map iv) ∧ Below w.heap.size w w'
theorem CrRes.nil {w w' : World} (hb : Below w.heap.size w w') (x : Int) : CrRes w (([], []), x) (.returned (.tuple #[.slice none 0 0, .slice none 0 0, .int .i64 x])) w' := ⟨_, _, rfl, World.ownsRow_nil _ _ _ _, World.ownsRow_nil _ _ _ _, hb⟩
theorem basis_own {x : Cd} {hs : List Bool} {w : World} {e : Ending} {w' : World} (h : IntRes w (basR x hs) e w') (hok : okB x hs = true) : ∃ B cb, e = .returned (.tuple #[.slice B (basL x hs).length cb, .int .i64 0]) ∧ w'.ownsRow w.heap.size 3 1 (.slice B (basL x hs).length cb) (basL x hs).length (pvC (basL x hs)) ∧ Below w.heap.size w w' := by
  unfold basR at h
  rw [if_pos hok] at h
  obtain ⟨v, rfl, ho, hb⟩ := h
  have ho2 : w'.ownsRow w.heap.size 3 1 v (basL x hs).length (pvC (basL x hs)) := by
    rw [pvC_map]
    have h2 := ho
    rw [show ((List.map (fun b : Nat => (b : Int)) (basL x hs), (0 : Int)).1).length = (basL x hs).length by simp] at h2
    exact h2
  obtain ⟨B, cb, rfl, _, _⟩ := own_form ho2
  exact ⟨B, cb, rfl, ho2, hb⟩
set_option maxHeartbeats 1600000 in
set_option maxRecDepth 100000 in
theorem rcoef_any (x : Cd) (A : Option Addr) (c : Nat) (w : World) (hx : CIn w x A) (hsm : Sm x) (hs : List Bool) (D : Option Addr) (cd : Nat) (hD : Sl w w.heap.size D 1 hs.length (hs.map bl)) (u : Int) :
    Calls Tryd.prog 53 #[x.v A c, .slice D hs.length cd, .int .i64 u] w (CrRes w (crR x hs u)) := by
  obtain ⟨W, hW⟩ : ∃ W, W = w.alloc (.cells (x.cs A c).toArray 24) := ⟨_, rfl⟩
  have hbw : Below w.heap.size w W := by rw [hW]; exact below_new w _
  have HB := hideIt hbw
  have HBC := hideIt (show BC W w.heap.size x A c by rw [hW]; exact BC.new c hx)
  have HV := hideIt (rbasis_any x A c W HBC.out.cin hsm hs D cd ((hD.below hbw).wide hbw.size))
  have HWE := hideIt hW
  have hnot := not_b
  obtain ⟨res, hres⟩ : ∃ r, r = crR x hs u := ⟨_, rfl⟩
  rw [← hres]
  clear hbw hx hW hD hsm
  cases q1 : okB x hs with
  | true =>
    have HV2 := hideIt (HV.out.mono fun e w' h => basis_own h q1)
    clear HV
    have he0 : binOp .neq 31 (.int .i64 0) (.int .i64 0) = pure (.bool false) := by rw [i_neq]; rfl
    by_cases h1 : u < 0
    · have HRES : Hid (res = (([], []), 1)) := hideIt (by rw [hres]; unfold crR; rw [if_neg (fun h => by have := of_decide_eq_true h.2; omega)])
      clear hres q1
      go_enter Tryd.func53, Tryd.ntmps53
      go_wp2_with (first
        | (go_at_call 69; rw [← HWE.out]; refine HV2.out.mono ?_; rintro e w1 ⟨Bb, cb, rfl, ho1, hb1⟩; have HB1 := hideIt hb1; clear hb1 ho1 HV2))
      (try simp only [Exit.inBlock, Exit.then]); refine bodyPost_ret (results_tmp3 rfl _ _ _) rfl ?_
      rw [HRES.out]
      exact CrRes.nil (HB.out.trans (HB1.out.mono HB.out.size)) 1
    · by_cases h2 : u ≥ (hs.length : Int)
      · have HRES : Hid (res = (([], []), 1)) := hideIt (by rw [hres]; unfold crR; rw [if_neg (fun h => by have := of_decide_eq_true h.2; omega)])
        clear hres q1
        go_enter Tryd.func53, Tryd.ntmps53
        go_wp2_with (first
          | (go_at_call 69; rw [← HWE.out]; refine HV2.out.mono ?_; rintro e w1 ⟨Bb, cb, rfl, ho1, hb1⟩; have HB1 := hideIt hb1; clear hb1 ho1 HV2))
        (try simp only [Exit.inBlock, Exit.then]); refine bodyPost_ret (results_tmp3 rfl _ _ _) rfl ?_
        rw [HRES.out]
        exact CrRes.nil (HB.out.trans (HB1.out.mono HB.out.size)) 1
      · obtain ⟨un, rfl⟩ : ∃ un : Nat, u = (un : Int) := ⟨u.toNat, by omega⟩
        obtain ⟨m, n, hvc, hlen⟩ := VC.ok q1
        have hunl : un < hs.length := by omega
        have hd0 : decide ((un : Int) < 0) = false := decide_eq_false h1
        have hd1 : decide (hs.length ≤ un) = false := decide_eq_false (by omega)
        have hidx : idxB hs (un : Int) = true := decide_eq_true (by omega)
        have HRT := hideIt (fun h : recov x hs un => show res = (((basL x hs).map fun b : Nat => (b : Int), nl (basL x hs).length (cofU x hs un)), 0) by rw [hres]; unfold crR; rw [if_pos ⟨q1, hidx⟩, Int.toNat_natCast, if_pos h])
        have HRF := hideIt (fun h : ¬ recov x hs un => show res = (([], []), 11) by rw [hres]; unfold crR; rw [if_pos ⟨q1, hidx⟩, Int.toNat_natCast, if_neg h])
        have HREC := hideIt (recov_vc hvc hs un)
        have HCOF := hideIt (cofU_vc hvc hs un)
        have HVC := hideIt hvc
        have HFD := hideIt hvc.f
        have hwid := hvc.wid
        have hpos := hvc.pos
        have HIND := hideIt (show Ind m n (basL x hs).length (sel (gC x) (basL x hs)) by rw [basL_vc hvc hs]; exact bas_ind hvc.fm (gC_v hvc) _)
        have HLB := hideIt (show (basL x hs).length ≤ n by rw [basL_vc hvc hs]; exact bas_le hvc.fm (gC_v hvc) _)
        have HIN := hideIt (show ∀ i, i < (basL x hs).length → (basL x hs).getD i 0 < n + x.par.length from fun i hi => by
          rw [← hlen]
          have := (bas_at (m := m) (n := n) (G := gC x) (hv := hvF hs) (k := hs.length) (i := i) (by rw [← basL_vc hvc hs]; exact hi)).1
          rw [basL_vc hvc hs]; exact this)
        have HUN := hideIt (show un < n + x.par.length by omega)
        have hn32 : n ≤ 32 := by omega
        clear hres q1 hidx hvc hlen hunl
        generalize basL x hs = b at *
        go_enter Tryd.func53, Tryd.ntmps53
        go_wp2_with (first
          | (go_at_call 69; rw [← HWE.out]; refine HV2.out.mono ?_; rintro e w1 ⟨Bb, cb, rfl, ho1, hb1⟩; have HB1 := hideIt hb1; have HO1 := hideIt ho1; clear hb1 ho1 HV2))
        obtain ⟨B0, hB0⟩ : ∃ b, b = w1.heap.size := ⟨_, rfl⟩
        have HB0 := hideIt hB0
        have HRB0 := hideIt (RB.start w1 n (gC x) (show B0 ≤ w1.heap.size by rw [hB0]; exact Nat.le_refl _))
        clear hB0
        go_loopg [11, 12] b.length (fun gk s11 s12 wr => ∃ k : Nat, k + gk = b.length ∧ s12 = .int .i64 (k : Int) ∧ Aside (∃ vs, RB wr B0 n (gC x) [] (b.take k) (.slice none 0 0) s11 vs) ∧ Aside (Below w1.heap.size w1 wr))
        case atStart => exact ⟨0, by omega, rfl, ⟨_, HRB0.out⟩, Below.refl _ _⟩
        case round =>
          obtain ⟨k, hk, rfl, HRB, HLW⟩ := hrel
          obtain ⟨w4, rfl⟩ : ∃ x, x = wr := ⟨wr, rfl⟩
          obtain ⟨vs, hrb⟩ := HRB.out
          obtain ⟨A8, c8, rfl, hpm⟩ := hrb.pm
          have HRB1 := hideIt hrb
          have HPM := hideIt hpm
          have HLW2 := hideIt (HB1.out.trans (HLW.out.mono HB1.out.size))
          have HBK := hideIt (HBC.out.keep HLW2.out)
          clear HRB hrb hpm HRB0
          have hlen : (b.take k).length = k := by rw [List.length_take]; omega
          rw [hlen] at HRB1 ⊢
          by_cases hlt : k < b.length
          · have hki : (k : Int) < (b.length : Int) := by omega
            have hinc := inc_c 3 k (by have := HLB.out; omega)
            obtain ⟨g1, cap1, cs1, e1, _, _, _, hbk1, htk1⟩ := own_blk2 (own_kept HO1.out HLW.out) (show 0 < b.length by omega)
            injection e1 with e1 _ e3
            subst e1 e3
            have c44 : w4.cell? ⟨g1, k, none⟩ = some (.int .i64 ((b.getD k 0 : Nat) : Int)) := by rw [hbk1.cell]; exact take_at htk1 (iv_at hlt)
            have HBL1 := hideIt hbk1
            have HRR := hideIt (fun (W2 : World) (h : Below W.heap.size W W2) => rrow_own HVC.out A c W2 (HBC.out.keep h).cin (b.getD k 0) (HIN.out k hlt))
            have HTK := hideIt (show b.take (k + 1) = b.take k ++ [b.getD k 0] by rw [take_snoc b k hlt]; simp [List.getD_eq_getElem?_getD, hlt])
            have HLN := hideIt hlen
            generalize b.getD k 0 = bk at *
            clear hbk1 htk1 hlen HPM
            go_wp2_with fail
            refine loads_begin_n 10 [(6, fun W => Blk W w.heap.size 24 (x.cs A c)), (6, fun W => W.cell? ⟨g1, k, none⟩ = some (.int .i64 (bk : Int)))] rfl (by kernel_rfl) ?_
            refine wpAnyL_move (oi := ⟨some 39, _, _, _, _, _⟩) 0 ?_ rfl (by kernel_rfl) (by kernel_rfl) (by kernel_rfl) (by kernel_rfl) (fun _ _ _ h => h) (by kernel_rfl) ?_ ((Hooks.add HBK.out.box (Hooks.add c44 (Hooks.nil _ _)))) ?_
            rotate_left
            · intro W'; go_simp; first | done | with_reducible rfl
            try simp only [Act.put]
            try simp only [List.setIfInBounds_toArray]
            try simp only [List.set_cons_succ]
            try simp only [List.set_cons_zero]
            refine wpAnyL_take (oi := ⟨some 40, _, _, _, _, _⟩) 1 6 (x.v A c) _ rfl (by kernel_rfl) (by kernel_rfl) (by kernel_rfl) (by kernel_rfl) (by kernel_rfl) (by kernel_rfl) (.head _) (fun _ _ _ h => h) (by kernel_rfl) (fun W' hW' => exec_load_blk (cs := x.cs A c) rfl rfl hW' _ Tryd.underlying24 rfl isz5) (Hooks.add HBK.out.box (Hooks.add c44 (Hooks.nil _ _))) ?_
            try simp only [Act.put]
            try simp only [List.setIfInBounds_toArray]
            try simp only [List.set_cons_succ]
            try simp only [List.set_cons_zero]
            refine wpAnyL_move (oi := ⟨some 41, _, _, _, _, _⟩) 2 ?_ rfl (by kernel_rfl) (by kernel_rfl) (by kernel_rfl) (by kernel_rfl) (fun _ _ _ h => h) (by kernel_rfl) ?_ ((Hooks.add HBK.out.box (Hooks.add c44 (Hooks.nil _ _)))) ?_
            rotate_left
            · intro W'; go_simp; first | done | with_reducible rfl
            try simp only [Act.put]
            try simp only [List.setIfInBounds_toArray]
            try simp only [List.set_cons_succ]
            try simp only [List.set_cons_zero]
            refine wpAnyL_move (oi := ⟨some 42, _, _, _, _, _⟩) 3 ?_ rfl (by kernel_rfl) (by kernel_rfl) (by kernel_rfl) (by kernel_rfl) (fun _ _ _ h => h) (by kernel_rfl) ?_ ((Hooks.add HBK.out.box (Hooks.add c44 (Hooks.nil _ _)))) ?_
            rotate_left
            · intro W'; go_simp; first | done | with_reducible rfl
            try simp only [Act.put]
            try simp only [List.setIfInBounds_toArray]
            try simp only [List.set_cons_succ]
            try simp only [List.set_cons_zero]
            refine wpAnyL_move (oi := ⟨some 43, _, _, _, _, _⟩) 4 ?_ rfl (by kernel_rfl) (by kernel_rfl) (by kernel_rfl) (by kernel_rfl) (fun _ _ _ h => h) (by kernel_rfl) ?_ ((Hooks.add HBK.out.box (Hooks.add c44 (Hooks.nil _ _)))) ?_
            rotate_left
            · intro W'; go_simp; first | done | with_reducible rfl
            try simp only [Act.put]
            try simp only [List.setIfInBounds_toArray]
            try simp only [List.set_cons_succ]
            try simp only [List.set_cons_zero]
            refine wpAnyL_take (oi := ⟨some 44, _, _, _, _, _⟩) 5 6 (.int .i64 (bk : Int)) _ rfl (by kernel_rfl) (by kernel_rfl) (by kernel_rfl) (by kernel_rfl) (by kernel_rfl) (by kernel_rfl) (.tail _ (.head _)) (fun _ _ _ h => h) (by kernel_rfl) (fun W' hW' => by (try dsimp only at hW'); go_simp) (Hooks.add HBK.out.box (Hooks.add c44 (Hooks.nil _ _))) ?_
            try simp only [Act.put]
            try simp only [List.setIfInBounds_toArray]
            try simp only [List.set_cons_succ]
            try simp only [List.set_cons_zero]
            refine wpAnyL_one (o := ⟨some 45, _, _, _, _, _⟩) 6 (by kernel_rfl) rfl (fun K hK => ?_)
            go_wp2_with (first
              | (go_at_call 70; refine (HRR.out _ HLW2.out.drew).mono ?_; rintro e w7 ⟨b7, c7, rfl, ho7, hb7⟩))
            have hb47 : Below w4.heap.size w4 w7 := (Below.refl w4.heap.size w4).drew.trans hb7
            have HRB7 := hideIt (HRB1.out.keep hb47)
            have HB7 := hideIt hb47
            have HO7 := hideIt ho7
            refine hK _ _ (Hooks.skip (by kernel_rfl) (Hooks.skip (by kernel_rfl) (Hooks.nil _ _))) ?_
            clear hK K ho7 hb7 hb47 c44 HBK HRR
            try simp only [Act.put]
            try simp only [List.setIfInBounds_toArray]
            try simp only [List.set_cons_succ]
            try simp only [List.set_cons_zero]
            refine loads_tail 7 (by kernel_rfl) (by kernel_rfl) (by kernel_rfl) (by kernel_rfl) ?_
            simp only [List.drop_succ_cons, List.drop_zero]
            go_wp2_with (first
              | ((with_reducible refine at_append ?_); refine wpList_apR (A := some ⟨b7, 0, none⟩) (k := n) (c := c7) (n := k) rfl (.tmp 39) (.tmp 46) rfl rfl (by have := HRB7.out.hdr; rw [HLN.out] at this; exact this) rfl (by have := HLB.out; omega) HRB7.out.sz ?_; intro v11 w11 HO11 HG11 HA11 HB11))
            go_roundg (gk - 1)
            case measure => omega
            case rel =>
              refine ⟨k + 1, by omega, by go_num, ⟨_, by rw [HTK.out]; exact HRB1.out.rows HB7.out HO7.out (by rw [HLN.out]; exact HO11.out) HG11.out⟩, (HLW.out.trans (HB7.out.mono HLW.out.size)).trans (HB11.out.mono (by rw [HB0.out]; exact Nat.le_refl _))⟩
          · have hki : ¬ (k : Int) < (b.length : Int) := by omega
            have hke : k = b.length := by omega
            have htb : b.take k = b := by rw [hke, List.take_length]
            rw [htb] at HPM
            have c1 := HBK.out.c1
            rw [HFD.out] at c1
            have HRR := hideIt (fun (W2 : World) (h : Below W.heap.size W W2) => rrow_own HVC.out A c W2 (HBC.out.keep h).cin un HUN.out)
            have HEX := hideIt (fun (W2 : World) T ct hP hT => express_b HVC.out b HIND.out un W2 A8 c8 hP T ct hT)
            rw [hke]
            clear hlen htb hke hlt hk HRB1
            go_wp2_with fail
            refine loads_begin_n 12 [(6, fun W => W.cell? ⟨w.heap.size, 1, none⟩ = some (.int .i64 (m : Int))), (5, fun W => Blk W w.heap.size 24 (x.cs A c))] rfl (by kernel_rfl) ?_
            refine wpAnyL_move (oi := ⟨some 49, _, _, _, _, _⟩) 0 ?_ rfl (by kernel_rfl) (by kernel_rfl) (by kernel_rfl) (by kernel_rfl) (fun _ _ _ h => h) (by kernel_rfl) ?_ ((Hooks.add c1 (Hooks.add HBK.out.box (Hooks.nil _ _)))) ?_
            rotate_left
            · intro W'; go_simp; first | done | with_reducible rfl
            try simp only [Act.put]
            try simp only [List.setIfInBounds_toArray]
            try simp only [List.set_cons_succ]
            try simp only [List.set_cons_zero]
            refine wpAnyL_take (oi := ⟨some 50, _, _, _, _, _⟩) 1 6 (.int .i64 (m : Int)) _ rfl (by kernel_rfl) (by kernel_rfl) (by kernel_rfl) (by kernel_rfl) (by kernel_rfl) (by kernel_rfl) (.head _) (fun _ _ _ h => h) (by kernel_rfl) (fun W' hW' => by (try dsimp only at hW'); go_simp) (Hooks.add c1 (Hooks.add HBK.out.box (Hooks.nil _ _))) ?_
            try simp only [Act.put]
            try simp only [List.setIfInBounds_toArray]
            try simp only [List.set_cons_succ]
            try simp only [List.set_cons_zero]
            refine wpAnyL_move (oi := ⟨some 51, _, _, _, _, _⟩) 2 ?_ rfl (by kernel_rfl) (by kernel_rfl) (by kernel_rfl) (by kernel_rfl) (fun _ _ _ h => h) (by kernel_rfl) ?_ ((Hooks.add c1 (Hooks.add HBK.out.box (Hooks.nil _ _)))) ?_
            rotate_left
            · intro W'; go_simp; first | done | with_reducible rfl
            try simp only [Act.put]
            try simp only [List.setIfInBounds_toArray]
            try simp only [List.set_cons_succ]
            try simp only [List.set_cons_zero]
            refine wpAnyL_take (oi := ⟨some 52, _, _, _, _, _⟩) 3 5 (x.v A c) _ rfl (by kernel_rfl) (by kernel_rfl) (by kernel_rfl) (by kernel_rfl) (by kernel_rfl) (by kernel_rfl) (.tail _ (.head _)) (fun _ _ _ h => h) (by kernel_rfl) (fun W' hW' => exec_load_blk (cs := x.cs A c) rfl rfl hW' _ Tryd.underlying24 rfl isz5) (Hooks.add c1 (Hooks.add HBK.out.box (Hooks.nil _ _))) ?_
            try simp only [Act.put]
            try simp only [List.setIfInBounds_toArray]
            try simp only [List.set_cons_succ]
            try simp only [List.set_cons_zero]
            refine wpAnyL_move (oi := ⟨some 53, _, _, _, _, _⟩) 4 ?_ rfl (by kernel_rfl) (by kernel_rfl) (by kernel_rfl) (by kernel_rfl) (fun _ _ _ h => h) (by kernel_rfl) ?_ ((Hooks.add c1 (Hooks.add HBK.out.box (Hooks.nil _ _)))) ?_
            rotate_left
            · intro W'; go_simp; first | done | with_reducible rfl
            try simp only [Act.put]
            try simp only [List.setIfInBounds_toArray]
            try simp only [List.set_cons_succ]
            try simp only [List.set_cons_zero]
            refine wpAnyL_one (o := ⟨some 54, _, _, _, _, _⟩) 5 (by kernel_rfl) rfl (fun K hK => ?_)
            go_wp2_with (first
              | (go_at_call 70; refine (HRR.out _ HLW2.out.drew).mono ?_; rintro e w7 ⟨b7, c7, rfl, ho7, hb7⟩))
            have hb47 : Below w4.heap.size w4 w7 := (Below.refl w4.heap.size w4).drew.trans hb7
            have HL7 := hideIt (HLW2.out.trans (hb47.mono HLW2.out.size))
            have c17 : w7.cell? ⟨w.heap.size, 1, none⟩ = some (.int .i64 (m : Int)) := by have := (HBC.out.keep HL7.out).c1; rwa [HFD.out] at this
            have HSL7 := hideIt (Sl.of_own ho7)
            have HPM7 := hideIt ((HPM.out.below hb47).wide hb47.size)
            have HB17 := hideIt (HLW.out.trans (hb47.mono HLW.out.size))
            refine hK _ _ (Hooks.add c17 (Hooks.skip (by kernel_rfl) (Hooks.nil _ _))) ?_
            clear hK K ho7 hb7 hb47 c1 HBK HRR HPM
            try simp only [Act.put]
            try simp only [List.setIfInBounds_toArray]
            try simp only [List.set_cons_succ]
            try simp only [List.set_cons_zero]
            refine wpAnyL_one (o := ⟨some 55, _, _, _, _, _⟩) 6 (by kernel_rfl) rfl (fun K hK => ?_)
            go_wp2_with (first
              | (go_at_call 71; refine (HEX.out _ _ _ HPM7.out HSL7.out).mono ?_; rintro e w8 ⟨v8, rfl, ho8, hb8⟩))
            obtain ⟨q8, hq8⟩ : ∃ q, q = (expR m n b.length (sel (gC x) b) (gC x un)).2 := ⟨_, rfl⟩
            rw [← hq8]
            have HQ8 := hideIt hq8
            have HO8 := hideIt ho8
            have HL8 := hideIt (HL7.out.trans (hb8.mono HL7.out.size))
            have HB18 := hideIt (HB17.out.trans (hb8.mono HB17.out.size))
            have HZ8 := hideIt (show w.heap.size ≤ w7.heap.size from Nat.le_trans HB.out.size HL7.out.size)
            refine hK _ _ (Hooks.skip (by kernel_rfl) (Hooks.skip (by kernel_rfl) (Hooks.nil _ _))) ?_
            clear hK K hq8 ho8 hb8 c17 HSL7 HPM7 HL7 HEX
            try simp only [Act.put]
            try simp only [List.setIfInBounds_toArray]
            try simp only [List.set_cons_succ]
            try simp only [List.set_cons_zero]
            refine wpAnyL_move (oi := ⟨some 48, _, _, _, _, _⟩) 7 ?_ rfl (by kernel_rfl) (by kernel_rfl) (by kernel_rfl) (by kernel_rfl) (fun _ _ _ h => h) (by kernel_rfl) ?_ ((Hooks.skip (by kernel_rfl) (Hooks.skip (by kernel_rfl) (Hooks.nil _ _)))) ?_
            rotate_left
            · intro W'; go_simp; first | done | with_reducible rfl
            try simp only [Act.put]
            try simp only [List.setIfInBounds_toArray]
            try simp only [List.set_cons_succ]
            try simp only [List.set_cons_zero]
            refine wpAnyL_move (oi := ⟨some 56, _, _, _, _, _⟩) 8 ?_ rfl (by kernel_rfl) (by kernel_rfl) (by kernel_rfl) (by kernel_rfl) (fun _ _ _ h => h) (by kernel_rfl) ?_ ((Hooks.skip (by kernel_rfl) (Hooks.skip (by kernel_rfl) (Hooks.nil _ _)))) ?_
            rotate_left
            · intro W'; go_simp; first | done | with_reducible rfl
            try simp only [Act.put]
            try simp only [List.setIfInBounds_toArray]
            try simp only [List.set_cons_succ]
            try simp only [List.set_cons_zero]
            refine wpAnyL_move (oi := ⟨some 57, _, _, _, _, _⟩) 9 ?_ rfl (by kernel_rfl) (by kernel_rfl) (by kernel_rfl) (by kernel_rfl) (fun _ _ _ h => h) (by kernel_rfl) ?_ ((Hooks.skip (by kernel_rfl) (Hooks.skip (by kernel_rfl) (Hooks.nil _ _)))) ?_
            rotate_left
            · intro W'; go_simp; first | done | with_reducible rfl
            try simp only [Act.put]
            try simp only [List.setIfInBounds_toArray]
            try simp only [List.set_cons_succ]
            try simp only [List.set_cons_zero]
            refine loads_tail 10 (by kernel_rfl) (by kernel_rfl) (by kernel_rfl) (by kernel_rfl) ?_
            simp only [List.drop_succ_cons, List.drop_zero]
            cases q8 with
            | true =>
              have HDE := hideIt (expR_dep HQ8.out)
              have HE := hideIt (HRT.out (HREC.out.2 HDE.out))
              go_wp2_with fail
              (try simp only [Exit.inBlock, Exit.then]); refine bodyPost_ret (results_tmp3 rfl _ _ _) rfl ?_
              rw [HE.out]
              refine ⟨_, _, rfl, ?_, ?_, HB.out.trans (HL8.out.mono HB.out.size)⟩
              · show World.ownsRow _ _ _ _ _ (List.map _ _).length _
                rw [List.length_map, ← pvC_map]
                exact own_base (own_kept HO1.out HB18.out) HB.out.size
              · show World.ownsRow _ _ _ _ _ (nl b.length _).length _
                rw [HCOF.out]
                have := HO8.out
                unfold expR at this
                rw [if_pos HDE.out] at this
                exact own_base this HZ8.out
            | false =>
              have HE := hideIt (HRF.out fun h => expR_ind HQ8.out (HREC.out.1 h))
              go_wp2_with fail
              (try simp only [Exit.inBlock, Exit.then]); refine bodyPost_ret (results_tmp3 rfl _ _ _) rfl ?_
              rw [HE.out]
              exact CrRes.nil (HB.out.trans (HL8.out.mono HB.out.size)) 11
  | false =>
    have HRES : Hid (res = (([], []), 1)) := hideIt (by rw [hres]; unfold crR; rw [if_neg (fun h => by rw [q1] at h; exact absurd h.1 (by decide))])
    have HV2 : Hid (Calls Tryd.prog 69 #[x.v A c, .slice D hs.length cd] W (IntRes W ([], 1))) := hideIt (by
      have := HV.out
      unfold basR at this
      rw [if_neg (by rw [q1]; decide)] at this
      exact this)
    have he0 : binOp .neq 31 (.int .i64 1) (.int .i64 0) = pure (.bool true) := by rw [i_neq]; rfl
    clear hres q1 HV
    go_enter Tryd.func53, Tryd.ntmps53
    go_wp2_with (first
      | (go_at_call 69; rw [← HWE.out]; refine HV2.out.mono ?_; rintro e w1 ⟨vb, rfl, ho1, hb1⟩; have HB1 := hideIt hb1; clear hb1 ho1 HV2))
    (try simp only [Exit.inBlock, Exit.then]); refine bodyPost_ret (results_tmp3 rfl _ _ _) rfl ?_
    rw [HRES.out]
    exact CrRes.nil (HB.out.trans (HB1.out.mono HB.out.size)) 1
theorem t_neq (a b c d : Int) (w : World) : (binOp .neq 54 (.agg #[.int .i64 a, .int .i64 b]) (.agg #[.int .i64 c, .int .i64 d])).run Tryd.prog w = .ok (.bool (decide (¬ (a = c ∧ b = d)))) w := by
  have hu : Tryd.prog.underlying 3 = some (.int .i64) := Tryd.underlying3
  have hs : ∀ W, (isAgg 3).run Tryd.prog W = .ok false W := fun W => by kernel_rfl
  have hf : ∃ f1 f2 : Field, (Tryd.prog.fieldsOf 54).toList = [f1, f2] ∧ f1.name ≠ "_" ∧ f2.name ≠ "_" ∧ f1.type = 3 ∧ f2.type = 3 ∧ f1.offset = 0 ∧ f2.offset = 1 := by
    have hu := Tryd.underlying54
    unfold Program.fieldsOf
    rw [hu]
    exact ⟨_, _, rfl, by decide, by decide, rfl, rfl, rfl, rfl⟩
  obtain ⟨f1, f2, e, n1, n2, t1, t2, o1, o2⟩ := hf
  have p : ∀ (xs : Array Value) (o : Nat) (v : Value), xs[o]? = some v → (part 3 xs o).run Tryd.prog w = .ok v w := fun xs o v h => by
    simp [part, Sem.run_bind, hs, h]
  have p1 := p #[.int .i64 a, .int .i64 b] 0 (.int .i64 a) rfl
  have p2 := p #[.int .i64 c, .int .i64 d] 0 (.int .i64 c) rfl
  have p3 := p #[.int .i64 a, .int .i64 b] 1 (.int .i64 b) rfl
  have p4 := p #[.int .i64 c, .int .i64 d] 1 (.int .i64 d) rfl
  have q1 := run_equalIn_int w 9998 3 .i64 .i64 a c hu
  have q2 := run_equalIn_int w 9998 3 .i64 .i64 b d hu
  rw [run_neq_struct, run_equalIn_struct w 9999 54 _ _ (by kernel_rfl) (by kernel_rfl), e]
  simp only [Op.eqFields, if_pos n1, if_pos n2, Sem.run_bind, t1, t2, o1, o2, p1, p2, Result.andThen_ok, q1]
  by_cases h1 : a = c
  · rw [show (a == c) = true from beq_iff_eq.2 h1]
    simp only [Bool.not_true, Bool.false_eq_true, if_false, Sem.run_bind, p3, p4, Result.andThen_ok, q2]
    by_cases h2 : b = d
    · rw [show (b == d) = true from beq_iff_eq.2 h2, show decide (¬ (a = c ∧ b = d)) = false by simp [h1, h2]]
      rfl
    · rw [show (b == d) = false from beq_eq_false_iff_ne.2 h2, show decide (¬ (a = c ∧ b = d)) = true by simp [h2]]
      rfl
  · rw [show (a == c) = false from beq_eq_false_iff_ne.2 h1, show decide (¬ (a = c ∧ b = d)) = true by simp [h1]]
    rfl
theorem cr_slices {w : World} {b : List Nat} {cf : Nat → Nat} {x : Int} {e : Ending} {w' : World} (h : CrRes w ((b.map fun k : Nat => (k : Int), nl b.length cf), x) e w') :
    ∃ Ab cb Ax cx, e = .returned (.tuple #[.slice Ab b.length cb, .slice Ax b.length cx, .int .i64 x]) ∧ Sl w' w'.heap.size Ab 1 b.length (pvC b) ∧ Sl w' w'.heap.size Ax 1 b.length ((nl b.length cf).map iv) ∧ Below w.heap.size w w' := by
  obtain ⟨vb, vx, rfl, ho1, ho2, hb⟩ := h
  dsimp only at ho1 ho2
  rw [List.length_map, ← pvC_map] at ho1
  rw [nl_len] at ho2
  obtain ⟨Ab, cb, rfl, _, _⟩ := own_form ho1
  obtain ⟨Ax, cx, rfl, _, _⟩ := own_form ho2
  exact ⟨Ab, cb, Ax, cx, rfl, Sl.of_own ho1, Sl.of_own ho2, hb⟩
set_option maxHeartbeats 1600000 in
set_option maxRecDepth 100000 in
theorem rcomb_any (x : Cd) (A : Option Addr) (c : Nat) (w : World) (hx : CIn w x A) (hsm : Sm x) (hs : List Bool) (D : Option Addr) (cd : Nat) (hD : Sl w w.heap.size D 1 hs.length (hs.map bl)) (u : Int) :
    Calls Tryd.prog 29 #[x.v A c, .slice D hs.length cd, .int .i64 u] w (TermRes w (combR x hs u)) := by
  obtain ⟨W, hW⟩ : ∃ W, W = w.alloc (.cells (x.cs A c).toArray 24) := ⟨_, rfl⟩
  have hbw : Below w.heap.size w W := by rw [hW]; exact below_new w _
  have HB := hideIt hbw
  have HBC := hideIt (show BC W w.heap.size x A c by rw [hW]; exact BC.new c hx)
  have HV := hideIt (rcoef_any x A c W HBC.out.cin hsm hs D cd ((hD.below hbw).wide hbw.size) u)
  have HWE := hideIt hW
  have hnot := not_b
  obtain ⟨res, hres⟩ : ∃ r, r = combR x hs u := ⟨_, rfl⟩
  rw [← hres]
  clear hbw hx hW hD hsm
  have hcase : (∃ ee : Int, ee ≠ 0 ∧ crR x hs u = (([], []), ee) ∧ res = ([], ee)) ∨ (∃ un : Nat, okB x hs = true ∧ crR x hs u = (((basL x hs).map fun b : Nat => (b : Int), nl (basL x hs).length (cofU x hs un)), 0) ∧ res = (tms (basL x hs) (cofU x hs un) (basL x hs).length, 0)) := by
    by_cases h : okB x hs = true ∧ idxB hs u = true
    · by_cases h2 : recov x hs u.toNat
      · exact .inr ⟨u.toNat, h.1, by unfold crR; rw [if_pos h, if_pos h2], by rw [hres]; unfold combR trmR; rw [if_pos h, if_pos h2]⟩
      · exact .inl ⟨11, by decide, by unfold crR; rw [if_pos h, if_neg h2], by rw [hres]; unfold combR trmR; rw [if_pos h, if_neg h2]⟩
    · exact .inl ⟨1, by decide, by unfold crR; rw [if_neg h], by rw [hres]; unfold combR; rw [if_neg h]⟩
  clear hres
  rcases hcase with ⟨ee, hne, h1, h2⟩ | ⟨un, hok, h1, h2⟩
  · rw [h1] at HV
    have HRES := hideIt h2
    have he0 : binOp .neq 31 (.int .i64 ee) (.int .i64 0) = pure (.bool true) := by rw [i_neq, decide_eq_true hne]
    clear h1 h2 hne
    go_enter Tryd.func29, Tryd.ntmps29
    go_wp2_with (first
      | (go_at_call 53; rw [← HWE.out]; refine HV.out.mono ?_; rintro e w1 ⟨vb, vx, rfl, ho1, ho2, hb1⟩; have HB1 := hideIt hb1; clear hb1 ho1 ho2 HV))
    go_ret2
    rw [HRES.out]
    exact TermRes.nil (HB.out.trans (HB1.out.mono HB.out.size)) ee
  · rw [h1] at HV
    have HRES := hideIt h2
    obtain ⟨m, n, hvc, hlen⟩ := VC.ok hok
    clear hlen
    have HLB := hideIt (show (basL x hs).length ≤ n by rw [basL_vc hvc hs]; exact bas_le hvc.fm (gC_v hvc) _)
    have hn32 : n ≤ 32 := by have := hvc.wid; omega
    have HTL := hideIt (tms_len (basL x hs) (cofU x hs un))
    have HV2 := hideIt (HV.out.mono fun e w' h => cr_slices h)
    have he0 : binOp .neq 31 (.int .i64 0) (.int .i64 0) = pure (.bool false) := by rw [i_neq]; rfl
    clear h1 h2 hok hvc HV
    generalize cofU x hs un = cf at *
    generalize basL x hs = b at *
    go_enter Tryd.func29, Tryd.ntmps29
    go_wp2_with (first
      | (go_at_call 53; rw [← HWE.out]; refine HV2.out.mono ?_; rintro e w1 ⟨Ab, cb, Ax, cx, rfl, hs1, hs2, hb1⟩; have HB1 := hideIt hb1; have HS1 := hideIt hs1; have HS2 := hideIt hs2; clear hb1 hs1 hs2 HV2))
    go_loopg [11, 12] b.length (fun gk s11 s12 wr => ∃ k : Nat, k + gk = b.length ∧ s12 = .int .i64 (k : Int) ∧ Aside (Below w1.heap.size w1 wr) ∧ Aside (wr.ownsRow w1.heap.size 54 2 s11 (tms b cf k).length (tcs (tms b cf k))))
    case atStart => exact ⟨0, by omega, rfl, Below.refl _ _, World.ownsRow_nil _ _ _ _⟩
    case round =>
      obtain ⟨k, hk, rfl, HLW, HO⟩ := hrel
      obtain ⟨w4, rfl⟩ : ∃ x, x = wr := ⟨wr, rfl⟩
      obtain ⟨A9, c9, e9, _, _⟩ := own_form HO.out
      subst e9
      by_cases hlt : k < b.length
      · have hki : (k : Int) < (b.length : Int) := by omega
        have hinc := inc_c 3 k (by have := HLB.out; omega)
        obtain ⟨b1, o1, u1, hA1, hb1, hu1, hc1⟩ := (HS1.out.below HLW.out).at_ hlt
        rw [iv_at hlt] at hu1
        injection hu1 with hu1
        obtain ⟨b2, o2, u2, hA2, hb2, hu2, hc2⟩ := (HS2.out.below HLW.out).at_ hlt
        rw [iv_at hlt] at hu2
        injection hu2 with hu2
        subst hu1 hu2 hA1 hA2
        clear hb1 hb2
        by_cases h0 : cf k = 0
        · have hq := int_neqF6 3 (a := ((cf k : Nat) : Int)) (b := 0) (by omega)
          have HN := hideIt (show tms b cf (k + 1) = tms b cf k from if_pos h0)
          clear h0
          generalize cf k = ck at *
          generalize b.getD k 0 = bk at *
          go_wp2_with fail
          go_roundg (gk - 1)
          case measure => omega
          case rel => exact ⟨k + 1, by omega, by go_num, HLW.out, by rw [HN.out]; exact HO.out⟩
        · have hq := int_neqT6 3 (a := ((cf k : Nat) : Int)) (b := 0) (by omega)
          have HN := hideIt (show tms b cf (k + 1) = tms b cf k ++ [(b.getD k 0, cf k)] from if_neg h0)
          have HTK := hideIt (HTL.out k)
          clear h0
          generalize cf k = ck at *
          generalize b.getD k 0 = bk at *
          generalize tms b cf k = L at *
          go_wp2_with fail
          refine loads_begin_n 13 [(9, fun W => W.cell? ⟨b1, o1 + k, none⟩ = some (.int .i64 (bk : Int))), (9, fun W => W.cell? ⟨b2, o2 + k, none⟩ = some (.int .i64 (ck : Int)))] rfl (by kernel_rfl) ?_
          refine wpAnyL_move (oi := ⟨some 35, _, _, _, _, _⟩) 0 ?_ rfl (by kernel_rfl) (by kernel_rfl) (by kernel_rfl) (by kernel_rfl) (fun _ _ _ h => h) (by kernel_rfl) ?_ ((Hooks.add hc1 (Hooks.add hc2 (Hooks.nil _ _)))) ?_
          rotate_left
          · intro W'; go_simp; first | done | with_reducible rfl
          try simp only [Act.put]
          try simp only [List.setIfInBounds_toArray]
          try simp only [List.set_cons_succ]
          try simp only [List.set_cons_zero]
          refine wpAnyL_move (oi := ⟨some 36, _, _, _, _, _⟩) 1 ?_ rfl (by kernel_rfl) (by kernel_rfl) (by kernel_rfl) (by kernel_rfl) (fun _ _ _ h => h) (by kernel_rfl) ?_ ((Hooks.add hc1 (Hooks.add hc2 (Hooks.nil _ _)))) ?_
          rotate_left
          · intro W'; go_simp; first | done | with_reducible rfl
          try simp only [Act.put]
          try simp only [List.setIfInBounds_toArray]
          try simp only [List.set_cons_succ]
          try simp only [List.set_cons_zero]
          refine wpAnyL_move (oi := ⟨some 37, _, _, _, _, _⟩) 2 ?_ rfl (by kernel_rfl) (by kernel_rfl) (by kernel_rfl) (by kernel_rfl) (fun _ _ _ h => h) (by kernel_rfl) ?_ ((Hooks.add hc1 (Hooks.add hc2 (Hooks.nil _ _)))) ?_
          rotate_left
          · intro W'; go_simp; first | done | with_reducible rfl
          try simp only [Act.put]
          try simp only [List.setIfInBounds_toArray]
          try simp only [List.set_cons_succ]
          try simp only [List.set_cons_zero]
          refine wpAnyL_move (oi := ⟨some 38, _, _, _, _, _⟩) 3 ?_ rfl (by kernel_rfl) (by kernel_rfl) (by kernel_rfl) (by kernel_rfl) (fun _ _ _ h => h) (by kernel_rfl) ?_ ((Hooks.add hc1 (Hooks.add hc2 (Hooks.nil _ _)))) ?_
          rotate_left
          · intro W'; go_simp; first | done | with_reducible rfl
          try simp only [Act.put]
          try simp only [List.setIfInBounds_toArray]
          try simp only [List.set_cons_succ]
          try simp only [List.set_cons_zero]
          refine wpAnyL_take (oi := ⟨some 39, _, _, _, _, _⟩) 4 9 (.int .i64 (bk : Int)) _ rfl (by kernel_rfl) (by kernel_rfl) (by kernel_rfl) (by kernel_rfl) (by kernel_rfl) (by kernel_rfl) (.head _) (fun _ _ _ h => h) (by kernel_rfl) (fun W' hW' => by (try dsimp only at hW'); go_simp) (Hooks.add hc1 (Hooks.add hc2 (Hooks.nil _ _))) ?_
          try simp only [Act.put]
          try simp only [List.setIfInBounds_toArray]
          try simp only [List.set_cons_succ]
          try simp only [List.set_cons_zero]
          refine wpAnyL_move (oi := ⟨some 40, _, _, _, _, _⟩) 5 ?_ rfl (by kernel_rfl) (by kernel_rfl) (by kernel_rfl) (by kernel_rfl) (fun _ _ _ h => h) (by kernel_rfl) ?_ ((Hooks.add hc1 (Hooks.add hc2 (Hooks.nil _ _)))) ?_
          rotate_left
          · intro W'; go_simp; first | done | with_reducible rfl
          try simp only [Act.put]
          try simp only [List.setIfInBounds_toArray]
          try simp only [List.set_cons_succ]
          try simp only [List.set_cons_zero]
          refine wpAnyL_move (oi := ⟨some 41, _, _, _, _, _⟩) 6 ?_ rfl (by kernel_rfl) (by kernel_rfl) (by kernel_rfl) (by kernel_rfl) (fun _ _ _ h => h) (by kernel_rfl) ?_ ((Hooks.add hc1 (Hooks.add hc2 (Hooks.nil _ _)))) ?_
          rotate_left
          · intro W'; go_simp; first | done | with_reducible rfl
          try simp only [Act.put]
          try simp only [List.setIfInBounds_toArray]
          try simp only [List.set_cons_succ]
          try simp only [List.set_cons_zero]
          refine wpAnyL_move (oi := ⟨some 42, _, _, _, _, _⟩) 7 ?_ rfl (by kernel_rfl) (by kernel_rfl) (by kernel_rfl) (by kernel_rfl) (fun _ _ _ h => h) (by kernel_rfl) ?_ ((Hooks.add hc1 (Hooks.add hc2 (Hooks.nil _ _)))) ?_
          rotate_left
          · intro W'; go_simp; first | done | with_reducible rfl
          try simp only [Act.put]
          try simp only [List.setIfInBounds_toArray]
          try simp only [List.set_cons_succ]
          try simp only [List.set_cons_zero]
          refine wpAnyL_take (oi := ⟨some 43, _, _, _, _, _⟩) 8 9 (.int .i64 (ck : Int)) _ rfl (by kernel_rfl) (by kernel_rfl) (by kernel_rfl) (by kernel_rfl) (by kernel_rfl) (by kernel_rfl) (.tail _ (.head _)) (fun _ _ _ h => h) (by kernel_rfl) (fun W' hW' => by (try dsimp only at hW'); go_simp) (Hooks.add hc1 (Hooks.add hc2 (Hooks.nil _ _))) ?_
          try simp only [Act.put]
          try simp only [List.setIfInBounds_toArray]
          try simp only [List.set_cons_succ]
          try simp only [List.set_cons_zero]
          refine wpAnyL_one (o := ⟨some 44, _, _, _, _, _⟩) 9 (by kernel_rfl) rfl (fun K hK => ?_)
          go_wp2_with fail
          have HB5 := hideIt (Below.refl w4.heap.size w4).drew
          have HO5 := hideIt (own_kept HO.out HB5.out)
          have HL5 := hideIt (HLW.out.trans (HB5.out.mono HLW.out.size))
          refine hK _ _ (Hooks.skip (by kernel_rfl) (Hooks.skip (by kernel_rfl) (Hooks.nil _ _))) ?_
          clear hK K hc1 hc2
          try simp only [Act.put]
          try simp only [List.setIfInBounds_toArray]
          try simp only [List.set_cons_succ]
          try simp only [List.set_cons_zero]
          refine loads_tail 10 (by kernel_rfl) (by kernel_rfl) (by kernel_rfl) (by kernel_rfl) ?_
          simp only [List.drop_succ_cons, List.drop_zero]
          go_wp2_with (first
            | ((with_reducible refine at_append ?_); refine wpList_apT (t := (bk, ck)) (n := L.length) rfl (.tmp 35) (.tmp 45) rfl rfl HO5.out rfl (by have := HTK.out; have := HLB.out; omega) HL5.out.size ?_; intro v9 w9 HO9 HG9 HA9 HB9))
          go_roundg (gk - 1)
          case measure => omega
          case rel => exact ⟨k + 1, by omega, by go_num, HL5.out.trans HB9.out, by rw [HN.out, List.length_append]; exact HO9.out⟩
      · have hki : ¬ (k : Int) < (b.length : Int) := by omega
        have hke : k = b.length := by omega
        subst hke
        go_wp2_with fail
        go_ret2
        rw [HRES.out]
        exact ⟨_, rfl, own_base HO.out (Nat.le_trans HB.out.size HB1.out.size), HB.out.trans ((HB1.out.trans (HLW.out.mono HB1.out.size)).mono HB.out.size)⟩
set_option maxHeartbeats 800000 in
theorem rrecoverable_any (x : Cd) (A : Option Addr) (c : Nat) (w : World) (hx : CIn w x A) (hsm : Sm x) (hs : List Bool) (D : Option Addr) (cd : Nat) (hD : Sl w w.heap.size D 1 hs.length (hs.map bl)) (u : Int) :
    Calls Tryd.prog 28 #[x.v A c, .slice D hs.length cd, .int .i64 u] w fun e w' => e = .returned (.bool (decide ((combR x hs u).2 = 0))) ∧ Below w.heap.size w w' := by
  obtain ⟨W, hW⟩ : ∃ W, W = w.alloc (.cells (x.cs A c).toArray 24) := ⟨_, rfl⟩
  have hbw : Below w.heap.size w W := by rw [hW]; exact below_new w _
  have HB := hideIt hbw
  have HBC := hideIt (show BC W w.heap.size x A c by rw [hW]; exact BC.new c hx)
  have HV := hideIt (rcomb_any x A c W HBC.out.cin hsm hs D cd ((hD.below hbw).wide hbw.size) u)
  have HWE := hideIt hW
  have heq := i_eql 31 .i64 (combR x hs u).2 0
  clear hbw hx hW hD hsm
  generalize combR x hs u = r at *
  generalize decide (r.2 = 0) = b at *
  go_enter Tryd.func28, Tryd.ntmps28
  go_wp2_with (first
    | (go_at_call 29; rw [← HWE.out]; refine HV.out.mono ?_; rintro e w1 ⟨v, rfl, _, hb1⟩; have HB1 := hideIt hb1; clear hb1 HV))
  go_ret
  exact ⟨rfl, HB.out.trans (HB1.out.mono HB.out.size)⟩
theorem isz2 : (Tryd.prog.info? 54).map (·.size) = some 2 := by kernel_rfl
theorem exec_load_mid8 {P : Program} {ev : Operand → Value} {W : World} {o : Oper} {ty : TypeId} {x : Operand} {b off : Nat} {cs : List Value} (ho : o.op = .load ty x) (hx : ev x = .pointer (some ⟨b, off, none⟩)) (hg : W.rangeAt b off cs) (d : TypeDesc)
    (hu : P.underlying ty = some d) (hd : d.isRow = true) (hi : (P.info? ty).map (·.size) = some cs.length) : (execOp ev o).run P W = .ok (.value (.agg cs.toArray)) W := by
  unfold execOp
  simp only [ho, hx, Sem.run_bind, run_loadAt_mid W b off ty cs d hg hu hd hi, Result.andThen_ok, Sem.run_pure]
theorem Sl.term {w : World} {B : Nat} {A : Option Addr} {l : List (Nat × Nat)} (h : Sl w B A 2 l.length (tcs l)) {k : Nat} (hk : k < l.length) : ∃ b off, A = some ⟨b, off, none⟩ ∧ b < B ∧ ∀ w' : World, (∀ o, w'.cell? ⟨b, o, none⟩ = w.cell? ⟨b, o, none⟩) → w'.rangeAt b (off + k * 2) (tc l[k]) := by
  obtain ⟨b, off, e, hb, hc⟩ := h.2 (by rw [tcs_len]; omega)
  obtain ⟨h1, h2⟩ := tcs_at l k hk
  refine ⟨b, off, e, hb, fun w' hw j u hj => ?_⟩
  rw [hw]
  match j, hj with
  | 0, hj =>
    injection hj with hj
    subst hj
    rw [Nat.add_zero]
    exact hc _ _ h1
  | 1, hj =>
    injection hj with hj
    subst hj
    rw [Nat.add_assoc]
    exact hc _ _ h2
set_option maxHeartbeats 1600000 in
set_option maxRecDepth 100000 in
theorem sameTerms_any (xs ys : List (Nat × Nat)) (A A' : Option Addr) (c c' : Nat) (w : World) (hx : Sl w w.heap.size A 2 xs.length (tcs xs)) (hy : Sl w w.heap.size A' 2 ys.length (tcs ys)) (hlx : xs.length ≤ 100000) :
    Calls Tryd.prog 47 #[.slice A xs.length c, .slice A' ys.length c'] w fun e w' => e = .returned (.bool (decide (xs = ys))) ∧ ∃ n, w' = w.drewN n := by
  have HX := hideIt hx
  have HY := hideIt hy
  clear hx hy
  by_cases hl : xs.length = ys.length
  · have Hl := hideIt hl
    have ht : binOp .neq 3 (.int .i64 (xs.length : Int)) (.int .i64 (ys.length : Int)) = pure (.bool false) := by rw [i_neq, decide_eq_false (by omega)]
    clear hl
    go_enter Tryd.func47, Tryd.ntmps47
    go_wp2_with fail
    go_loopg [4, 5] xs.length (fun g s4 s5 wr => ∃ k : Nat, g + k = xs.length ∧ s4 = .bool false ∧ s5 = .int .i64 k ∧ Aside (xs.take k = ys.take k ∧ ∃ n, wr = w.drewN n))
    case atStart => exact ⟨0, by omega, rfl, rfl, by simp, 0, rfl⟩
    case round =>
      obtain ⟨k, hg, rfl, rfl, HA⟩ := hrel
      obtain ⟨n0, hn0⟩ := HA.out.2
      have HT := hideIt HA.out.1
      clear HA
      by_cases hk : k < xs.length
      · have hk' : k < ys.length := by have := Hl.out; omega
        obtain ⟨b, off, rfl, hb, hc⟩ := HX.out.term hk
        obtain ⟨b', off', rfl, hb', hc'⟩ := HY.out.term hk'
        have r1 := hc wr (fun o => by rw [hn0]; rfl)
        have r2 := hc' wr (fun o => by rw [hn0]; rfl)
        have HN := hideIt hn0
        have hki : (k : Int) < (xs.length : Int) := by omega
        have hki2 : (k : Int) < (ys.length : Int) := by omega
        have hinc := inc_c 3 k (by omega)
        have HTX := hideIt (take_snoc xs k hk)
        have HTY := hideIt (take_snoc ys k hk')
        have HR1 := hideIt r1
        have HR2 := hideIt r2
        have htn : ∀ W, (binOp .neq 54 (.agg (tc xs[k]).toArray) (.agg (tc ys[k]).toArray)).run Tryd.prog W = .ok (.bool (decide (xs[k] ≠ ys[k]))) W := fun W => by
          have h1 := t_neq xs[k].1 xs[k].2 ys[k].1 ys[k].2 W
          refine h1.trans ?_
          congr 2
          exact decide_eq_decide.2 ⟨fun h e => h (by rw [e]; exact ⟨rfl, rfl⟩), fun h e => h (Prod.ext (by omega) (by omega))⟩
        have HNE := hideIt (fun (h : xs[k] ≠ ys[k]) => show decide (xs = ys) = false from decide_eq_false fun e => h (by subst e; rfl))
        clear r1 r2 hn0 hc hc' hb hb'
        generalize xs[k] = t1 at *
        generalize ys[k] = t2 at *
        by_cases he : t1 = t2
        · have HE := hideIt he
          rw [decide_eq_false (fun h => h he)] at htn
          clear he HNE
          go_wp2_with fail
          refine loads_begin_n 9 [(8, fun W => W.rangeAt b (off + k * 2) (tc t1)), (8, fun W => W.rangeAt b' (off' + k * 2) (tc t2))] rfl (by kernel_rfl) ?_
          refine wpAnyL_move (oi := ⟨some 17, _, _, _, _, _⟩) 0 ?_ rfl (by kernel_rfl) (by kernel_rfl) (by kernel_rfl) (by kernel_rfl) (fun _ _ _ h => h) (by kernel_rfl) ?_ ((Hooks.add HR1.out (Hooks.add HR2.out (Hooks.nil _ _)))) ?_
          rotate_left
          · intro W'; go_simp; first | done | with_reducible rfl
          try simp only [Act.put]
          try simp only [List.setIfInBounds_toArray]
          try simp only [List.set_cons_succ]
          try simp only [List.set_cons_zero]
          refine wpAnyL_move (oi := ⟨some 18, _, _, _, _, _⟩) 1 ?_ rfl (by kernel_rfl) (by kernel_rfl) (by kernel_rfl) (by kernel_rfl) (fun _ _ _ h => h) (by kernel_rfl) ?_ ((Hooks.add HR1.out (Hooks.add HR2.out (Hooks.nil _ _)))) ?_
          rotate_left
          · intro W'; go_simp; first | done | with_reducible rfl
          try simp only [Act.put]
          try simp only [List.setIfInBounds_toArray]
          try simp only [List.set_cons_succ]
          try simp only [List.set_cons_zero]
          refine wpAnyL_move (oi := ⟨some 19, _, _, _, _, _⟩) 2 ?_ rfl (by kernel_rfl) (by kernel_rfl) (by kernel_rfl) (by kernel_rfl) (fun _ _ _ h => h) (by kernel_rfl) ?_ ((Hooks.add HR1.out (Hooks.add HR2.out (Hooks.nil _ _)))) ?_
          rotate_left
          · intro W'; go_simp; first | done | with_reducible rfl
          try simp only [Act.put]
          try simp only [List.setIfInBounds_toArray]
          try simp only [List.set_cons_succ]
          try simp only [List.set_cons_zero]
          refine wpAnyL_take (oi := ⟨some 20, _, _, _, _, _⟩) 3 8 (.agg (tc t1).toArray) _ rfl (by kernel_rfl) (by kernel_rfl) (by kernel_rfl) (by kernel_rfl) (by kernel_rfl) (by kernel_rfl) (.head _) (fun _ _ _ h => h) (by kernel_rfl) (fun W' hW' => exec_load_mid8 (cs := tc t1) rfl rfl hW' _ Tryd.underlying54 rfl isz2) (Hooks.add HR1.out (Hooks.add HR2.out (Hooks.nil _ _))) ?_
          try simp only [Act.put]
          try simp only [List.setIfInBounds_toArray]
          try simp only [List.set_cons_succ]
          try simp only [List.set_cons_zero]
          refine wpAnyL_move (oi := ⟨some 21, _, _, _, _, _⟩) 4 ?_ rfl (by kernel_rfl) (by kernel_rfl) (by kernel_rfl) (by kernel_rfl) (fun _ _ _ h => h) (by kernel_rfl) ?_ ((Hooks.add HR1.out (Hooks.add HR2.out (Hooks.nil _ _)))) ?_
          rotate_left
          · intro W'; go_simp; first | done | with_reducible rfl
          try simp only [Act.put]
          try simp only [List.setIfInBounds_toArray]
          try simp only [List.set_cons_succ]
          try simp only [List.set_cons_zero]
          refine wpAnyL_move (oi := ⟨some 22, _, _, _, _, _⟩) 5 ?_ rfl (by kernel_rfl) (by kernel_rfl) (by kernel_rfl) (by kernel_rfl) (fun _ _ _ h => h) (by kernel_rfl) ?_ ((Hooks.add HR1.out (Hooks.add HR2.out (Hooks.nil _ _)))) ?_
          rotate_left
          · intro W'; go_simp; first | done | with_reducible rfl
          try simp only [Act.put]
          try simp only [List.setIfInBounds_toArray]
          try simp only [List.set_cons_succ]
          try simp only [List.set_cons_zero]
          refine wpAnyL_move (oi := ⟨some 23, _, _, _, _, _⟩) 6 ?_ rfl (by kernel_rfl) (by kernel_rfl) (by kernel_rfl) (by kernel_rfl) (fun _ _ _ h => h) (by kernel_rfl) ?_ ((Hooks.add HR1.out (Hooks.add HR2.out (Hooks.nil _ _)))) ?_
          rotate_left
          · intro W'; go_simp; first | done | with_reducible rfl
          try simp only [Act.put]
          try simp only [List.setIfInBounds_toArray]
          try simp only [List.set_cons_succ]
          try simp only [List.set_cons_zero]
          refine wpAnyL_take (oi := ⟨some 24, _, _, _, _, _⟩) 7 8 (.agg (tc t2).toArray) _ rfl (by kernel_rfl) (by kernel_rfl) (by kernel_rfl) (by kernel_rfl) (by kernel_rfl) (by kernel_rfl) (.tail _ (.head _)) (fun _ _ _ h => h) (by kernel_rfl) (fun W' hW' => exec_load_mid8 (cs := tc t2) rfl rfl hW' _ Tryd.underlying54 rfl isz2) (Hooks.add HR1.out (Hooks.add HR2.out (Hooks.nil _ _))) ?_
          try simp only [Act.put]
          try simp only [List.setIfInBounds_toArray]
          try simp only [List.set_cons_succ]
          try simp only [List.set_cons_zero]
          refine wpAnyL_one (o := ⟨some 25, _, _, _, _, _⟩) 8 (by kernel_rfl) rfl (fun K hK => ?_)
          go_wp2_with fail
          refine hK _ _ (Hooks.skip (by kernel_rfl) (Hooks.skip (by kernel_rfl) (Hooks.nil _ _))) ?_
          clear hK K
          try simp only [Act.put]
          try simp only [List.setIfInBounds_toArray]
          try simp only [List.set_cons_succ]
          try simp only [List.set_cons_zero]
          refine loads_done (by kernel_rfl) ?_
          go_wp2_with fail
          go_roundg (gk - 1)
          case measure => omega
          case rel => exact ⟨k + 1, by omega, rfl, by go_num, by rw [HTX.out, HTY.out, HT.out, HE.out], by rw [HN.out]; exact ⟨n0 + 1, drewN_drew w n0⟩⟩
        · have HE := hideIt (HNE.out he)
          rw [decide_eq_true he] at htn
          clear he HNE
          go_wp2_with fail
          refine loads_begin_n 9 [(8, fun W => W.rangeAt b (off + k * 2) (tc t1)), (8, fun W => W.rangeAt b' (off' + k * 2) (tc t2))] rfl (by kernel_rfl) ?_
          refine wpAnyL_move (oi := ⟨some 17, _, _, _, _, _⟩) 0 ?_ rfl (by kernel_rfl) (by kernel_rfl) (by kernel_rfl) (by kernel_rfl) (fun _ _ _ h => h) (by kernel_rfl) ?_ ((Hooks.add HR1.out (Hooks.add HR2.out (Hooks.nil _ _)))) ?_
          rotate_left
          · intro W'; go_simp; first | done | with_reducible rfl
          try simp only [Act.put]
          try simp only [List.setIfInBounds_toArray]
          try simp only [List.set_cons_succ]
          try simp only [List.set_cons_zero]
          refine wpAnyL_move (oi := ⟨some 18, _, _, _, _, _⟩) 1 ?_ rfl (by kernel_rfl) (by kernel_rfl) (by kernel_rfl) (by kernel_rfl) (fun _ _ _ h => h) (by kernel_rfl) ?_ ((Hooks.add HR1.out (Hooks.add HR2.out (Hooks.nil _ _)))) ?_
          rotate_left
          · intro W'; go_simp; first | done | with_reducible rfl
          try simp only [Act.put]
          try simp only [List.setIfInBounds_toArray]
          try simp only [List.set_cons_succ]
          try simp only [List.set_cons_zero]
          refine wpAnyL_move (oi := ⟨some 19, _, _, _, _, _⟩) 2 ?_ rfl (by kernel_rfl) (by kernel_rfl) (by kernel_rfl) (by kernel_rfl) (fun _ _ _ h => h) (by kernel_rfl) ?_ ((Hooks.add HR1.out (Hooks.add HR2.out (Hooks.nil _ _)))) ?_
          rotate_left
          · intro W'; go_simp; first | done | with_reducible rfl
          try simp only [Act.put]
          try simp only [List.setIfInBounds_toArray]
          try simp only [List.set_cons_succ]
          try simp only [List.set_cons_zero]
          refine wpAnyL_take (oi := ⟨some 20, _, _, _, _, _⟩) 3 8 (.agg (tc t1).toArray) _ rfl (by kernel_rfl) (by kernel_rfl) (by kernel_rfl) (by kernel_rfl) (by kernel_rfl) (by kernel_rfl) (.head _) (fun _ _ _ h => h) (by kernel_rfl) (fun W' hW' => exec_load_mid8 (cs := tc t1) rfl rfl hW' _ Tryd.underlying54 rfl isz2) (Hooks.add HR1.out (Hooks.add HR2.out (Hooks.nil _ _))) ?_
          try simp only [Act.put]
          try simp only [List.setIfInBounds_toArray]
          try simp only [List.set_cons_succ]
          try simp only [List.set_cons_zero]
          refine wpAnyL_move (oi := ⟨some 21, _, _, _, _, _⟩) 4 ?_ rfl (by kernel_rfl) (by kernel_rfl) (by kernel_rfl) (by kernel_rfl) (fun _ _ _ h => h) (by kernel_rfl) ?_ ((Hooks.add HR1.out (Hooks.add HR2.out (Hooks.nil _ _)))) ?_
          rotate_left
          · intro W'; go_simp; first | done | with_reducible rfl
          try simp only [Act.put]
          try simp only [List.setIfInBounds_toArray]
          try simp only [List.set_cons_succ]
          try simp only [List.set_cons_zero]
          refine wpAnyL_move (oi := ⟨some 22, _, _, _, _, _⟩) 5 ?_ rfl (by kernel_rfl) (by kernel_rfl) (by kernel_rfl) (by kernel_rfl) (fun _ _ _ h => h) (by kernel_rfl) ?_ ((Hooks.add HR1.out (Hooks.add HR2.out (Hooks.nil _ _)))) ?_
          rotate_left
          · intro W'; go_simp; first | done | with_reducible rfl
          try simp only [Act.put]
          try simp only [List.setIfInBounds_toArray]
          try simp only [List.set_cons_succ]
          try simp only [List.set_cons_zero]
          refine wpAnyL_move (oi := ⟨some 23, _, _, _, _, _⟩) 6 ?_ rfl (by kernel_rfl) (by kernel_rfl) (by kernel_rfl) (by kernel_rfl) (fun _ _ _ h => h) (by kernel_rfl) ?_ ((Hooks.add HR1.out (Hooks.add HR2.out (Hooks.nil _ _)))) ?_
          rotate_left
          · intro W'; go_simp; first | done | with_reducible rfl
          try simp only [Act.put]
          try simp only [List.setIfInBounds_toArray]
          try simp only [List.set_cons_succ]
          try simp only [List.set_cons_zero]
          refine wpAnyL_take (oi := ⟨some 24, _, _, _, _, _⟩) 7 8 (.agg (tc t2).toArray) _ rfl (by kernel_rfl) (by kernel_rfl) (by kernel_rfl) (by kernel_rfl) (by kernel_rfl) (by kernel_rfl) (.tail _ (.head _)) (fun _ _ _ h => h) (by kernel_rfl) (fun W' hW' => exec_load_mid8 (cs := tc t2) rfl rfl hW' _ Tryd.underlying54 rfl isz2) (Hooks.add HR1.out (Hooks.add HR2.out (Hooks.nil _ _))) ?_
          try simp only [Act.put]
          try simp only [List.setIfInBounds_toArray]
          try simp only [List.set_cons_succ]
          try simp only [List.set_cons_zero]
          refine wpAnyL_one (o := ⟨some 25, _, _, _, _, _⟩) 8 (by kernel_rfl) rfl (fun K hK => ?_)
          go_wp2_with fail
          refine hK _ _ (Hooks.skip (by kernel_rfl) (Hooks.skip (by kernel_rfl) (Hooks.nil _ _))) ?_
          clear hK K
          try simp only [Act.put]
          try simp only [List.setIfInBounds_toArray]
          try simp only [List.set_cons_succ]
          try simp only [List.set_cons_zero]
          refine loads_done (by kernel_rfl) ?_
          go_wp2_with fail
          go_ret
          exact ⟨ret_b HE.out.symm, by rw [HN.out]; exact ⟨n0 + 1, drewN_drew w n0⟩⟩
      · have hki : ¬ (k : Int) < (xs.length : Int) := by omega
        go_wp2_with fail
        go_ret
        have hkl : k = xs.length := by omega
        have := HT.out
        rw [hkl, List.take_length, Hl.out, List.take_length] at this
        exact ⟨ret_b (decide_eq_true this).symm, n0, rfl⟩
  · have ht : binOp .neq 3 (.int .i64 (xs.length : Int)) (.int .i64 (ys.length : Int)) = pure (.bool true) := by rw [i_neq, decide_eq_true (by omega)]
    have Hl := hideIt hl
    clear hl
    go_enter Tryd.func47, Tryd.ntmps47
    go_wp2_with fail
    go_ret
    exact ⟨ret_b (decide_eq_false fun h => Hl.out (by rw [h])).symm, 0, rfl⟩
end

end Go.Proofs.YtklngodlijiccaaDoor
