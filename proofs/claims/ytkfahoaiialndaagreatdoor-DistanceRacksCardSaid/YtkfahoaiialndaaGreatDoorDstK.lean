/-
  The laws' examples, as plain mathematics: which units of rs and par are sufficient, and what follows.
-/
import Derived.Test.YtkfahoaiialndaaGreatDoorD9b
import Derived.Test.YtkfahoaiialndaaGreatDoorD9c
import Derived.Test.YtkfahoaiialndaaGreatDoorD9d
import Derived.Test.YtkfahoaiialndaaGreatDoorD9f
import Derived.Test.YtkfahoaiialndaaGreatDoorD9g
import Derived.Test.YtkfahoaiialndaaGreatDoorD9h
import Derived.Test.YtkfahoaiialndaaGreatDoorDstA
import Derived.Test.YtkfahoaiialndaaGreatDoorDstB
namespace Go.Proofs.YtkfahoaiialndaaGreatDoor
set_option linter.unusedVariables false
set_option linter.unusedSimpArgs false

theorem cb_two (m : Nat) (V : Mx) (c : Nat → Nat) (j : Nat) : cb m 2 V c j = mul m (c 0) (V 0 j) ^^^ mul m (c 1) (V 1 j) := by
  show 0 ^^^ mul m (c 0) (V 0 j) ^^^ mul m (c 1) (V 1 j) = _
  rw [Nat.zero_xor]
/-- Two units that span the two data units. -/
theorem suf2 {x : Cd} {m : Nat} (h : VC x m 2) {hs : List Bool} (hl : hs.length = 2 + x.par.length) {i j : Nat} (hi : hs.getD i false = true) (hj : hs.getD j false = true) (c0 c1 d0 d1 : Nat)
    (hc : c0 < 2 ^ m ∧ c1 < 2 ^ m ∧ d0 < 2 ^ m ∧ d1 < 2 ^ m) (h00 : mul m c0 (gC x i 0) ^^^ mul m c1 (gC x j 0) = 1) (h01 : mul m c0 (gC x i 1) ^^^ mul m c1 (gC x j 1) = 0)
    (h10 : mul m d0 (gC x i 0) ^^^ mul m d1 (gC x j 0) = 0) (h11 : mul m d0 (gC x i 1) ^^^ mul m d1 (gC x j 1) = 1) : dcX x hs = true := by
  have hG := gC_v h
  rw [dcX_vc h hl]
  have hlt : ∀ {k}, hs.getD k false = true → k < hs.length := fun {k} hk => Nat.lt_of_not_le fun hge => by simp [List.getD_eq_getElem?_getD, List.getElem?_eq_none hge] at hk
  have si := bas_span (m := m) (n := 2) (G := gC x) (hv := hvF hs) h.fm hG hs.length i (hlt hi) hi
  have sj := bas_span (m := m) (n := 2) (G := gC x) (hv := hvF hs) h.fm hG hs.length j (hlt hj) hj
  rw [basL_vc h]
  refine Nat.le_antisymm (bas_le (m := m) (n := 2) (G := gC x) (hv := hvF hs) h.fm hG hs.length) ?_
  generalize bas m 2 (gC x) (hvF hs) hs.length = B at *
  have hI : Ind m 2 2 idm := fun c hc h0 k hk => by
    have := h0 k hk
    unfold cb at this
    rw [sm_one hk (fun i _ hne => by unfold idm; rw [if_neg hne, mul_zeroR])] at this
    unfold idm at this
    rw [if_pos rfl, mul_oneR h.fm] at this
    exact this
  obtain ⟨V, hV⟩ : ∃ v : Mx, v = fun k => if k = 0 then gC x i else gC x j := ⟨_, rfl⟩
  have hV0 : V 0 = gC x i := by rw [hV]; rfl
  have hV1 : V 1 = gC x j := by rw [hV]; rfl
  have hVv : ∀ k, k < 2 → Dep m 2 B.length (sel (gC x) B) (V k) := fun k hk => by
    rcases (by omega : k = 0 ∨ k = 1) with rfl | rfl
    · rw [hV0]; exact si
    · rw [hV1]; exact sj
  have hU : Vm m (sel (gC x) B) := fun i j => hG _ j
  refine Ind.exchange (U := sel (gC x) B) h.fm (idm_v h.fm) hU hI fun k hk => Dep.trans h.fm hU ?_ hVv
  have hvv : ∀ a b : Nat, a < 2 ^ m → b < 2 ^ m → Vv m (fun k : Nat => if k = 0 then a else if k = 1 then b else 0) := fun a b ha hb k => by
    show (if k = 0 then a else if k = 1 then b else 0) < _
    split
    · exact ha
    · split
      · exact hb
      · exact Nat.two_pow_pos m
  rcases (by omega : k = 0 ∨ k = 1) with rfl | rfl
  · refine ⟨_, hvv c0 c1 hc.1 hc.2.1, fun q hq => ?_⟩
    rw [cb_two, hV0, hV1]
    rcases (by omega : q = 0 ∨ q = 1) with rfl | rfl
    · exact h00.symm
    · exact h01.symm
  · refine ⟨_, hvv d0 d1 hc.2.2.1 hc.2.2.2, fun q hq => ?_⟩
    rw [cb_two, hV0, hV1]
    rcases (by omega : q = 0 ∨ q = 1) with rfl | rfl
    · exact h10.symm
    · exact h11.symm

def rsX : Cd := ⟨[114, 115], 8, 2, [[1, 1], [1, 2]], 1⟩
def paX : Cd := ⟨[114, 115], 8, 2, [[1, 1]], 1⟩
theorem rs_vc : VC rsX 8 2 := by
  refine ⟨by unfold Fm; omega, rfl, rfl, by decide, by decide, fun l hl => ?_⟩
  have : l = [1, 1] ∨ l = [1, 2] := by simpa [rsX] using hl
  rcases this with rfl | rfl
  · exact ⟨rfl, by decide, 1, by decide, by decide⟩
  · exact ⟨rfl, by decide, 1, by decide, by decide⟩
theorem pa_vc : VC paX 8 2 := by
  refine ⟨by unfold Fm; omega, rfl, rfl, by decide, by decide, fun l hl => ?_⟩
  have : l = [1, 1] := by simpa [paX] using hl
  subst this
  exact ⟨rfl, by decide, 1, by decide, by decide⟩
theorem rs_sm : Sm9 rsX := ⟨by decide, by decide, by decide, by decide⟩
theorem pa_sm : Sm9 paX := ⟨by decide, by decide, by decide, by decide⟩
theorem rs_ok : okX rsX 4 = true := by decide +kernel
theorem pa_ok : okX paX 3 = true := by decide +kernel
/-- Two of the units, whichever. -/
def twoB (hs : List Bool) : Bool := decide (2 ≤ cntT hs)
theorem rs_dc {hs : List Bool} (hl : hs.length = 4) : dcX rsX hs = twoB hs := by
  have p01 : hs.getD 0 false = true → hs.getD 1 false = true → dcX rsX hs = true := fun h1 h2 => suf2 rs_vc hl h1 h2 1 0 0 1 (by decide) (by decide +kernel) (by decide +kernel) (by decide +kernel) (by decide +kernel)
  have p02 : hs.getD 0 false = true → hs.getD 2 false = true → dcX rsX hs = true := fun h1 h2 => suf2 rs_vc hl h1 h2 1 0 1 1 (by decide) (by decide +kernel) (by decide +kernel) (by decide +kernel) (by decide +kernel)
  have p03 : hs.getD 0 false = true → hs.getD 3 false = true → dcX rsX hs = true := fun h1 h2 => suf2 rs_vc hl h1 h2 1 0 142 142 (by decide) (by decide +kernel) (by decide +kernel) (by decide +kernel) (by decide +kernel)
  have p12 : hs.getD 1 false = true → hs.getD 2 false = true → dcX rsX hs = true := fun h1 h2 => suf2 rs_vc hl h1 h2 1 1 1 0 (by decide) (by decide +kernel) (by decide +kernel) (by decide +kernel) (by decide +kernel)
  have p13 : hs.getD 1 false = true → hs.getD 3 false = true → dcX rsX hs = true := fun h1 h2 => suf2 rs_vc hl h1 h2 2 1 1 0 (by decide) (by decide +kernel) (by decide +kernel) (by decide +kernel) (by decide +kernel)
  have p23 : hs.getD 2 false = true → hs.getD 3 false = true → dcX rsX hs = true := fun h1 h2 => suf2 rs_vc hl h1 h2 245 244 244 244 (by decide) (by decide +kernel) (by decide +kernel) (by decide +kernel) (by decide +kernel)
  have pn : cntT hs < 2 → dcX rsX hs = false := fun h => Bool.eq_false_iff.2 fun hd => by have := (dcd_x rs_vc).cnt hs hl hd; omega
  match hs, hl with
  | [a, b, c, d], _ =>
    cases a <;> cases b <;> cases c <;> cases d <;> first
      | exact p01 rfl rfl | exact p02 rfl rfl | exact p03 rfl rfl | exact p12 rfl rfl | exact p13 rfl rfl | exact p23 rfl rfl | exact pn (by decide)
theorem pa_dc {hs : List Bool} (hl : hs.length = 3) : dcX paX hs = twoB hs := by
  have p01 : hs.getD 0 false = true → hs.getD 1 false = true → dcX paX hs = true := fun h1 h2 => suf2 pa_vc hl h1 h2 1 0 0 1 (by decide) (by decide +kernel) (by decide +kernel) (by decide +kernel) (by decide +kernel)
  have p02 : hs.getD 0 false = true → hs.getD 2 false = true → dcX paX hs = true := fun h1 h2 => suf2 pa_vc hl h1 h2 1 0 1 1 (by decide) (by decide +kernel) (by decide +kernel) (by decide +kernel) (by decide +kernel)
  have p12 : hs.getD 1 false = true → hs.getD 2 false = true → dcX paX hs = true := fun h1 h2 => suf2 pa_vc hl h1 h2 1 1 1 0 (by decide) (by decide +kernel) (by decide +kernel) (by decide +kernel) (by decide +kernel)
  have pn : cntT hs < 2 → dcX paX hs = false := fun h => Bool.eq_false_iff.2 fun hd => by have := (dcd_x pa_vc).cnt hs hl hd; omega
  match hs, hl with
  | [a, b, c], _ =>
    cases a <;> cases b <;> cases c <;> first
      | exact p01 rfl rfl | exact p02 rfl rfl | exact p12 rfl rfl | exact pn (by decide)
/-- Only the answers at lists of this length matter. -/
theorem ftl_same {dc dc' : List Bool → Bool} {hs : List Bool} (h : ∀ a, a.length = hs.length → dc a = dc' a) : ∀ (n : Nat) (set : List Nat) (fr : Nat), ftl dc hs n set fr = ftl dc' hs n set fr
  | 0, set, fr => by unfold ftl; rw [h _ (wo_len set hs)]
  | n + 1, set, fr => by
    unfold ftl
    congr 1
    funext i
    rw [ftl_same h n]
theorem leftZ_same {dc dc' : List Bool → Bool} {hs : List Bool} (h : ∀ a, a.length = hs.length → dc a = dc' a) (ok : Bool) : leftZ dc ok hs = leftZ dc' ok hs ∧ fatZ dc ok hs = fatZ dc' ok hs := by
  have e : leftN dc hs = leftN dc' hs := by unfold leftN; congr 1; funext f; rw [ftl_same h]
  unfold leftZ fatZ
  rw [h hs rfl, e, ftl_same h]
  exact ⟨rfl, rfl⟩
theorem lsR_same {dc dc' : List Bool → Bool} {racks names : List Int} {N : Nat} (h : ∀ a, a.length = N → dc a = dc' a) : ∀ (n : Nat) (hv : List Bool) (fr : Nat), hv.length = N → lsR dc racks names n hv fr = lsR dc' racks names n hv fr
  | 0, hv, fr, hl => h hv hl
  | n + 1, hv, fr, hl => by
    unfold lsR
    congr 1
    funext i
    exact lsR_same h n _ _ (by rw [wo_len, hl])
theorem racksZ_same {dc dc' : List Bool → Bool} {racks : List Int} (h : ∀ a, a.length = racks.length → dc a = dc' a) (ok : Bool) : racksZ dc ok racks = racksZ dc' ok racks := by
  unfold racksZ racksN
  congr 3
  funext g
  rw [lsR_same h _ _ _ List.length_replicate]
theorem ex_los : leftZ (dcX rsX) (okX rsX 4) (List.replicate 4 true) = 2 := by rw [(leftZ_same (fun a ha => rs_dc ha) _).1, rs_ok]; decide +kernel
theorem ex_lospa : leftZ (dcX paX) (okX paX 3) (List.replicate 3 true) = 1 := by rw [(leftZ_same (fun a ha => pa_dc ha) _).1, pa_ok]; decide +kernel
theorem ex_left : leftZ (dcX rsX) (okX rsX 4) [false, true, true, true] = 1 := by rw [(leftZ_same (fun a ha => rs_dc ha) _).1, rs_ok]; decide +kernel
theorem ex_fat : fatZ (dcX rsX) (okX rsX 4) [false, true, true, true] = [1, 2] := by rw [(leftZ_same (fun a ha => rs_dc ha) _).2, rs_ok]; decide +kernel
theorem ex_leftpa : leftZ (dcX paX) (okX paX 3) [false, false, true] = -1 := by rw [(leftZ_same (fun a ha => pa_dc ha) _).1, pa_ok]; decide +kernel
theorem ex_rack : racksZ (dcX rsX) (okX rsX 4) [0, 0, 1, 1] = 1 := by rw [racksZ_same (fun a ha => rs_dc ha) _, rs_ok]; decide +kernel
theorem ex_rack0 : racksZ (dcX rsX) (okX rsX 4) [0, 0, 0, 1] = 0 := by rw [racksZ_same (fun a ha => rs_dc ha) _, rs_ok]; decide +kernel
end Go.Proofs.YtkfahoaiialndaaGreatDoor
