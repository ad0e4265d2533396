/-
  What the functions of layer 6 answer; arguments and results in memory; At, walked.
-/
import Derived.Test.YtodmcojcmihooaaDoorMatL
namespace Go.Proofs.YtodmcojcmihooaaDoor
open Go.RowKit
set_option linter.unusedVariables false

/-- The element at a place, 0 if there is none. -/
def atM (a : Mt) (i j : Int) : Int := if vM a = true ∧ 0 ≤ i ∧ i < a.R ∧ 0 ≤ j ∧ j < a.C then (a.e i.toNat j.toNat : Int) else 0
/-- A matrix that came in. -/
structure MIn (w : World) (a : Mt) (A : Option Addr) (c : Nat) : Prop where
  sl : Sl w w.heap.size A 1 a.l.length (a.l.map iv)
  cap : a.l.length ≤ c
  max : c ≤ maxLen
theorem MIn.keep {w W : World} {a : Mt} {A : Option Addr} {c : Nat} (h : MIn w a A c) (hb : Below w.heap.size w W) : MIn W a A c := ⟨(h.sl.below hb).wide hb.size, h.cap, h.max⟩
/-- A matrix that comes back, and an error. -/
def MRes (w : World) (r : Mt × Int) (e : Ending) (w' : World) : Prop :=
  ∃ s, e = .returned (.tuple #[mtV r.1.F r.1.R r.1.C s, .int .i64 r.2]) ∧ w'.ownsRow w.heap.size 3 1 s r.1.l.length (r.1.l.map iv) ∧ Below w.heap.size w w'
theorem MRes.min {w W : World} {a : Mt} {s : Value} (h : W.ownsRow w.heap.size 3 1 s a.l.length (a.l.map iv)) : ∃ A c, s = .slice A a.l.length c ∧ MIn W a A c := by
  obtain ⟨A, c, rfl, h1, h2⟩ := own_form h
  exact ⟨A, c, rfl, Sl.of_own h, h1, h2⟩
theorem mvalid_b {a : Mt} {A : Option Addr} {c : Nat} {w : World} (hT : Tabs w) (hs : MIn w a A c) (W : World) (hW : Below w.heap.size w W) :
    Calls Tryd.prog 21 #[mtV a.F a.R a.C (.slice A a.l.length c)] W fun e w' => e = .returned (.bool (vM a)) ∧ Below W.heap.size W w' :=
  mvalid_any a.F a.R a.C a.l A c W (hT.keep hW) (hs.keep hW).sl
/-- The elements as a row of numbers. -/
abbrev gl (C : Nat) (E : Mx) : Nat → Nat := fun k => E (k / C) (k % C)
theorem gl_at {C : Nat} (E : Mx) {i j : Nat} (hj : j < C) : gl C E (i * C + j) = E i j := by
  show E ((i * C + j) / C) ((i * C + j) % C) = _
  rw [ix_div hj, ix_mod hj]
theorem mk_len (m R C : Nat) (E : Mx) : (mkM m R C E).l.length = R * C := nl_len _ _
/-- A slice that reads as n numbers. -/
theorem Sl.ints {w : World} {B n : Nat} {A : Option Addr} {f : Nat → Nat} (h : Sl w B A 1 n ((nl n f).map iv)) (hB : B ≤ w.heap.size) : ∃ b o, Ints w A b o n f ∧ (0 < n → b < B) := by
  rcases Nat.eq_zero_or_pos n with h0 | h0
  · exact ⟨0, 0, ⟨fun q => by omega, fun q => by omega, fun j hj => by omega⟩, fun q => by omega⟩
  · obtain ⟨b, o, e, hb, hc⟩ := h.2 (by rw [List.length_map, nl_len]; exact h0)
    exact ⟨b, o, ⟨fun _ => e, fun _ => Nat.lt_of_lt_of_le hb hB, fun j hj => hc j _ (iv_at hj)⟩, fun _ => hb⟩
theorem Ints.congr {w : World} {A : Option Addr} {b o n : Nat} {f g : Nat → Nat} (h : Ints w A b o n f) (he : ∀ j, j < n → f j = g j) : Ints w A b o n g :=
  ⟨h.adr, h.lt, fun j hj => by rw [← he j hj]; exact h.cell j hj⟩
/-- A row of a matrix. -/
theorem Ints.row {w : World} {A : Option Addr} {b o R C c : Nat} {E : Mx} (h : Ints w A b o (R * C) (gl C E)) {i : Nat} (hi : i < R) (hc : R * C ≤ c) : Ints w (rowA A c (i * C)) b (o + i * C) C (E i) := by
  have hle : (i + 1) * C ≤ R * C := Nat.mul_le_mul_right _ hi
  rw [Nat.add_mul, Nat.one_mul] at hle
  refine ⟨fun h0 => ?_, fun h0 => h.lt (by omega), fun j hj => ?_⟩
  · unfold rowA
    rw [if_neg (by omega), h.adr (by omega)]
    simp [addr_add]
  · rw [Nat.add_assoc, h.cell (i * C + j) (by omega), gl_at E hj]
theorem mk_cell {m R C : Nat} {E : Mx} {w : World} {A : Option Addr} {c : Nat} (h : MIn w (mkM m R C E) A c) : ∃ b o, Ints w A b o (R * C) (gl C E) ∧ (0 < R * C → b < w.heap.size) := by
  have h2 := h.sl
  rw [mk_len] at h2
  exact Sl.ints h2 (Nat.le_refl _)

set_option maxHeartbeats 1000000 in
theorem at_any (a : Mt) (i j : Int) (A : Option Addr) (c : Nat) (w : World) (hT : Tabs w) (hs : MIn w a A c) :
    Calls Tryd.prog 23 #[mtV a.F a.R a.C (.slice A a.l.length c), .int .i64 i, .int .i64 j] w fun e w' => e = .returned (.int .i64 (atM a i j)) ∧ Below w.heap.size w w' := by
  have HV := hideIt (mvalid_b hT hs)
  have HB := hideIt (Blk.new w 24 (mtC a.F a.R a.C (.slice A a.l.length c)))
  by_cases hv : vM a = true
  · obtain ⟨m, R, C, hm, hR, hC, hE, ha⟩ := vM_is hv
    generalize a.e = E at ha hE
    subst ha
    obtain ⟨b, o, hI, hb⟩ := mk_cell hs
    have hcap := hs.cap
    rw [mk_len] at HV HB hcap ⊢
    rw [hv] at HV
    have HVV := hideIt hv
    change Hid (∀ W, Below w.heap.size w W → Calls Tryd.prog 21 #[mtV (m : Int) (R : Int) (C : Int) (.slice A (R * C) c)] W fun e w' => e = .returned (.bool true) ∧ Below W.heap.size W w') at HV
    change Hid (Blk _ _ _ (mtC (m : Int) (R : Int) (C : Int) (.slice A (R * C) c))) at HB
    show Calls Tryd.prog 23 #[mtV (m : Int) (R : Int) (C : Int) (.slice A (R * C) c), .int .i64 i, .int .i64 j] w _
    obtain ⟨z, hz⟩ : ∃ z, z = atM (mkM m R C E) i j := ⟨_, rfl⟩
    rw [← hz]
    have HZ := hideIt hz
    have HI := hideIt hI
    clear hv hE hs hI hz hT
    by_cases h1 : 0 ≤ i
    · by_cases h2 : i < (R : Int)
      · by_cases h3 : 0 ≤ j
        · by_cases h4 : j < (C : Int)
          · obtain ⟨i', rfl⟩ := Int.eq_ofNat_of_zero_le h1
            obtain ⟨j', rfl⟩ := Int.eq_ofNat_of_zero_le h3
            have hlt := ix_lt (i := i') (j := j') (R := R) (C := C) (by omega) (by omega)
            have hle2 : R * C ≤ 32 * 32 := Nat.mul_le_mul hR hC
            have hmul := nmul 3 i' C (by omega)
            have hadd := nadd 3 (i' * C) j' (by omega)
            have hc0 := HI.out.cell (i' * C + j') hlt
            rw [gl_at E (by omega)] at hc0
            have hA := HI.out.adr (by omega)
            subst hA
            have HEQ := hideIt (show z = ((E i' j' : Nat) : Int) by
              rw [HZ.out]; unfold atM
              rw [if_pos ⟨HVV.out, by omega, by show (i' : Int) < (R : Int); omega, by omega, by show (j' : Int) < (C : Int); omega⟩]
              rw [Int.toNat_natCast, Int.toNat_natCast, mkM_e (by omega) (by omega)])
            have HC := hideIt hc0
            have hlti : ((i' * C + j' : Nat) : Int) < ((R * C : Nat) : Int) := by omega
            generalize E i' j' = x at *
            generalize hp : i' * C + j' = p at *
            generalize i' * C = q at *
            generalize R * C = n at *
            clear hp hc0
            go_enter Tryd.func23, Tryd.ntmps23
            go_wp2_with (go_at_call 21; refine (HV.out _ (below_new w _)).mono ?_; rintro e w2 ⟨rfl, hb2⟩; have HB2 := hideIt (HB.out.kept hb2 HB.out.lt); have HW2 := hideIt hb2; have f0 := HB2.out.cell 0; have f1 := HB2.out.cell 1; have f2 := HB2.out.cell 2; have f3 := HB2.out.cell 3; have hcell := ((below_new w _).trans (hb2.mono (by simp))).cell (p := ⟨b, o + p, none⟩) (hb (by omega)) |>.trans HC.out; clear hb2)
            go_ret
            exact ⟨by rw [HEQ.out]; rfl, (below_new w _).trans (HW2.out.mono (by simp))⟩
          · have HEQ := hideIt (show z = 0 by rw [HZ.out]; unfold atM; rw [if_neg (fun h => h4 h.2.2.2.2)])
            clear hb
            generalize R * C = n at *
            go_enter Tryd.func23, Tryd.ntmps23
            go_wp2_with (go_at_call 21; refine (HV.out _ (below_new w _)).mono ?_; rintro e w2 ⟨rfl, hb2⟩; have HB2 := hideIt (HB.out.kept hb2 HB.out.lt); have HW2 := hideIt hb2; have f0 := HB2.out.cell 0; have f1 := HB2.out.cell 1; have f2 := HB2.out.cell 2; have f3 := HB2.out.cell 3; clear hb2)
            all_goals
              go_ret
              exact ⟨by rw [HEQ.out]; rfl, (below_new w _).trans (HW2.out.mono (by simp))⟩
        · have HEQ := hideIt (show z = 0 by rw [HZ.out]; unfold atM; rw [if_neg (fun h => h3 h.2.2.2.1)])
          clear hb
          generalize R * C = n at *
          go_enter Tryd.func23, Tryd.ntmps23
          go_wp2_with (go_at_call 21; refine (HV.out _ (below_new w _)).mono ?_; rintro e w2 ⟨rfl, hb2⟩; have HB2 := hideIt (HB.out.kept hb2 HB.out.lt); have HW2 := hideIt hb2; have f0 := HB2.out.cell 0; have f1 := HB2.out.cell 1; have f2 := HB2.out.cell 2; have f3 := HB2.out.cell 3; clear hb2)
          all_goals
            go_ret
            exact ⟨by rw [HEQ.out]; rfl, (below_new w _).trans (HW2.out.mono (by simp))⟩
      · have HEQ := hideIt (show z = 0 by rw [HZ.out]; unfold atM; rw [if_neg (fun h => h2 h.2.2.1)])
        clear hb
        generalize R * C = n at *
        go_enter Tryd.func23, Tryd.ntmps23
        go_wp2_with (go_at_call 21; refine (HV.out _ (below_new w _)).mono ?_; rintro e w2 ⟨rfl, hb2⟩; have HB2 := hideIt (HB.out.kept hb2 HB.out.lt); have HW2 := hideIt hb2; have f0 := HB2.out.cell 0; have f1 := HB2.out.cell 1; have f2 := HB2.out.cell 2; have f3 := HB2.out.cell 3; clear hb2)
        all_goals
          go_ret
          exact ⟨by rw [HEQ.out]; rfl, (below_new w _).trans (HW2.out.mono (by simp))⟩
    · have HEQ := hideIt (show z = 0 by rw [HZ.out]; unfold atM; rw [if_neg (fun h => h1 h.2.1)])
      clear hb
      generalize R * C = n at *
      go_enter Tryd.func23, Tryd.ntmps23
      go_wp2_with (go_at_call 21; refine (HV.out _ (below_new w _)).mono ?_; rintro e w2 ⟨rfl, hb2⟩; have HB2 := hideIt (HB.out.kept hb2 HB.out.lt); have HW2 := hideIt hb2; have f0 := HB2.out.cell 0; have f1 := HB2.out.cell 1; have f2 := HB2.out.cell 2; have f3 := HB2.out.cell 3; clear hb2)
      all_goals
        go_ret
        exact ⟨by rw [HEQ.out]; rfl, (below_new w _).trans (HW2.out.mono (by simp))⟩
  · have HEQ := hideIt (show atM a i j = 0 by unfold atM; rw [if_neg (fun h => hv h.1)])
    rw [Bool.eq_false_iff.2 hv] at HV
    obtain ⟨z, hz⟩ : ∃ z, z = atM a i j := ⟨_, rfl⟩
    rw [← hz] at HEQ ⊢
    clear hv hs hT hz
    generalize a.l.length = n at *
    generalize a.F = F at *
    generalize a.R = R at *
    generalize a.C = C at *
    go_enter Tryd.func23, Tryd.ntmps23
    go_wp2_with (go_at_call 21; refine (HV.out _ (below_new w _)).mono ?_; rintro e w2 ⟨rfl, hb2⟩; have HB2 := hideIt (HB.out.kept hb2 HB.out.lt); have HW2 := hideIt hb2; have f0 := HB2.out.cell 0; have f1 := HB2.out.cell 1; have f2 := HB2.out.cell 2; have f3 := HB2.out.cell 3; clear hb2)
    go_ret
    exact ⟨by rw [HEQ.out]; rfl, (below_new w _).trans (HW2.out.mono (by simp))⟩

end Go.Proofs.YtodmcojcmihooaaDoor
