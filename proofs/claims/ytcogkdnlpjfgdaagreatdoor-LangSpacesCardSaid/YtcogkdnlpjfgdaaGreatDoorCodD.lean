/-
  What a definition means, as a plain function; a code under construction in memory; width and isDomain, walked.
-/
import Derived.Test.YtcogkdnlpjfgdaaGreatDoorCodC
namespace Go.Proofs.YtcogkdnlpjfgdaaGreatDoor
open Go.RowKit
set_option linter.unusedVariables false
set_option linter.unusedSimpArgs false

def rowsD (f d : Int) : List Ln → List (List Int) → List (List Int) × Nat × Int
  | [], out => (out, 0, 0)
  | x :: r, out => if 32 ≤ d + out.length then ([], x.key.ps, 2)
    else if (rowB x d (topF f)).2.2 ≠ 0 then ([], (rowB x d (topF f)).2.1, (rowB x d (topF f)).2.2)
    else rowsD f d r (out ++ [(rowB x d (topF f)).1])
def domD (nm : Bs) (f d : Int) (par : List (List Int)) : Option Tk → Cd × Nat × Int
  | none => (⟨nm, f, d, par, d + par.length⟩, 0, 0)
  | some m => if (m.n : Int) < 1 ∨ d + par.length < (m.n : Int) then (cd0, m.ps, 1) else (⟨nm, f, d, par, m.n⟩, 0, 0)
def codeD (x : Df) : Cd × Nat × Int :=
  if 12 < x.nm.tx.length then (cd0, x.nm.ps, 2)
  else if fieldB x.f.n = false then (cd0, x.f.ps, 1)
  else if dataB x.d.n = false then (cd0, x.d.ps, 1)
  else if (rowsD x.f.n x.d.n x.rows []).2.2 ≠ 0 then (cd0, (rowsD x.f.n x.d.n x.rows []).2.1, (rowsD x.f.n x.d.n x.rows []).2.2)
  else domD x.nm.tx x.f.n x.d.n (rowsD x.f.n x.d.n x.rows []).1 x.dm
theorem rows_build (f d : Nat) (rest : List Ln) : ∀ (xs : List Ln) (nm : Bs) (out : List (List Int)), (∀ x ∈ xs, x.key.tx = kLocal ∨ x.key.tx = kParity) →
    buildL (xs ++ rest) ⟨nm, f, d, out, 0⟩ = if (rowsD f d xs out).2.2 ≠ 0 then (cd0, (rowsD f d xs out).2.1, (rowsD f d xs out).2.2) else buildL rest ⟨nm, f, d, (rowsD f d xs out).1, 0⟩
  | [], nm, out, _ => by simp [rowsD]
  | x :: xs, nm, out, h => by
    have hx := h x (by simp)
    have n1 : x.key.tx ≠ kField := by rcases hx with e | e <;> rw [e] <;> decide
    have n2 : x.key.tx ≠ kData := by rcases hx with e | e <;> rw [e] <;> decide
    have n3 : x.key.tx ≠ kDomain := by rcases hx with e | e <;> rw [e] <;> decide
    rw [List.cons_append, buildL, if_neg n1, if_neg n2, if_neg n3, rowsD]
    dsimp only
    by_cases h1 : (32 : Int) ≤ (d : Int) + (out.length : Int)
    · rw [if_pos h1, if_pos h1]
      rw [if_pos (show ((2 : Int) ≠ 0) by decide)]
    · rw [if_neg h1, if_neg h1]
      by_cases h2 : (rowB x d (topF f)).2.2 ≠ 0
      · rw [if_pos h2, if_pos h2]
        dsimp only
        rw [if_pos h2]
      · rw [if_neg h2, if_neg h2]
        exact rows_build f d rest xs nm _ (fun y hy => h y (by simp [hy]))
theorem build_code (x : Df) (kf kd km : Tk) (h1 : kf.tx = kField) (h2 : kd.tx = kData) (h3 : x.dm ≠ none → km.tx = kDomain) (hr : ∀ y ∈ x.rows, y.key.tx = kLocal ∨ y.key.tx = kParity) :
    buildS ⟨x.nm, dLines kf kd km x⟩ = codeD x := by
  unfold buildS codeD
  dsimp only
  by_cases q0 : 12 < x.nm.tx.length
  · rw [if_pos q0, if_pos q0]
  · rw [if_neg q0, if_neg q0]
    unfold dLines
    rw [buildL]
    dsimp only
    rw [if_pos h1, show hd [x.f] = x.f from rfl]
    unfold fieldB
    by_cases q1 : x.f.n ≠ 8 ∧ x.f.n ≠ 16
    · rw [if_pos q1, if_pos (decide_eq_false (by omega))]
    · rw [if_neg q1, if_neg (by rw [decide_eq_true (by omega)]; simp), buildL]
      dsimp only
      rw [if_neg (by rw [h2]; decide), if_pos h2, show hd [x.d] = x.d from rfl]
      unfold dataB
      by_cases q2 : x.d.n < 1 ∨ 31 < x.d.n
      · rw [if_pos q2, if_pos (decide_eq_false (by omega))]
      · rw [if_neg q2, if_neg (by rw [decide_eq_true (by omega)]; simp), rows_build x.f.n x.d.n _ x.rows x.nm.tx [] hr]
        by_cases q3 : (rowsD x.f.n x.d.n x.rows []).2.2 ≠ 0
        · rw [if_pos q3, if_pos q3]
        · rw [if_neg q3, if_neg q3]
          cases hdm : x.dm with
          | none =>
            dsimp only
            rw [buildL]
            unfold domD
            rfl
          | some m =>
            have h3 := h3 (by rw [hdm]; simp)
            dsimp only
            rw [buildL]
            dsimp only
            rw [if_neg (by rw [h3]; decide), if_neg (by rw [h3]; decide), if_pos h3, show hd [m] = m from rfl]
            unfold domD
            dsimp only
            by_cases q4 : (m.n : Int) < 1 ∨ (x.d.n : Int) + ((rowsD x.f.n x.d.n x.rows []).1.length : Int) < (m.n : Int)
            · rw [if_pos (by omega), if_pos q4]
            · rw [if_neg (by omega), if_neg q4, buildL]
              dsimp only
              rw [if_neg (by omega)]
theorem rowsD_len (f d : Int) : ∀ (xs : List Ln) (out : List (List Int)), d + out.length ≤ 32 → (rowsD f d xs out).2.2 = 0 → d + (rowsD f d xs out).1.length ≤ 32 ∧ out.length + xs.length = (rowsD f d xs out).1.length
  | [], out, h, _ => by simp [rowsD]; exact h
  | x :: xs, out, h, h0 => by
    rw [rowsD] at h0 ⊢
    split at h0
    · exact absurd h0 (show ¬ (2 : Int) = 0 by decide)
    · rename_i h1
      split at h0
      · rename_i h2; exact absurd h0 h2
      · rename_i h2
        rw [if_neg h1, if_neg h2]
        have := rowsD_len f d xs _ (by rw [List.length_append]; simp; omega) h0
        rw [List.length_append] at this
        simp at this ⊢
        omega

/-- Rows of a code, the call's own. -/
def PR (w : World) (C : Nat) (v : Value) (par : List (List Int)) : Prop :=
  ∃ vs : List Value, w.ownsRow C 61 1 v par.length vs ∧ All2 (fun l u => ∃ A c, u = .slice A l.length c ∧ IR w C u l) par vs
theorem PR.imp {w w' : World} {C : Nat} {v : Value} {par : List (List Int)} (hT : ∀ v l, IR w C v l → IR w' C v l) (ho : ∀ n ys, w.ownsRow C 61 1 v n ys → w'.ownsRow C 61 1 v n ys) (h : PR w C v par) : PR w' C v par := by
  obtain ⟨vs, h1, h2⟩ := h
  exact ⟨vs, ho _ _ h1, All2.imp (fun l u ⟨A, c, h3, h4⟩ => ⟨A, c, h3, hT _ _ h4⟩) h2⟩
theorem PR.kept {w w' : World} {C : Nat} {v : Value} {par : List (List Int)} (h : PR w C v par) (hb : Below w.heap.size w w') : PR w' C v par :=
  h.imp (fun v l h => own_kept h hb) (fun n ys h => own_kept h hb)
theorem PR.alloc {w : World} {C : Nat} {v : Value} {par : List (List Int)} (h : PR w C v par) (o : Obj) : PR (w.alloc o) C v par :=
  h.imp (fun v l h => World.ownsRow.alloc h o) (fun n ys h => h.alloc o)
theorem PR.set {w : World} {C g : Nat} {v : Value} {par : List (List Int)} {t : TypeId} {cs : List Value} (hr : PR w C v par) (hb : Blk w g t cs) (h1 : t ≠ 3) (h2 : t ≠ 61) (i : Nat) (u : Value) : PR (w.setCell ⟨g, i, none⟩ u) C v par :=
  hr.imp (fun v l h => own_set h hb h1 i u) (fun n ys h => own_set h hb h2 i u)
theorem PR.snoc {w w' : World} {C : Nat} {v v' : Value} {par : List (List Int)} {l : List Int} {vs : List Value} {A : Option Addr} {c : Nat} (h1 : w.ownsRow C 61 1 v par.length vs) (h2 : All2 (fun l u => ∃ A c, u = .slice A l.length c ∧ IR w C u l) par vs) (hr : IR w C (.slice A l.length c) l)
    (hg : w.grownBy w' v.ownBlock) (ho : w'.ownsRow C 61 1 v' (par.length + 1) (vs ++ [.slice A l.length c])) : PR w' C v' (par ++ [l]) := by
  have hT : ∀ u l, IR w C u l → IR w' C u l := fun u l h => World.ownsRow.kept h hg (own_apart h h1 (by decide))
  exact ⟨vs ++ [.slice A l.length c], by rw [List.length_append]; simpa using ho, All2.snoc ⟨A, c, rfl, hT _ _ hr⟩ (All2.imp (fun l u ⟨A, c, h3, h4⟩ => ⟨A, c, h3, hT _ _ h4⟩) h2)⟩

abbrev cdV (nm : Bs) (f d : Int) (v : Value) (dm : Int) : Value := .agg #[sv nm, .int .i64 f, .int .i64 d, v, .int .i64 dm]
abbrev cdC (nm : Bs) (f d : Int) (v : Value) (dm : Int) : List Value := [sv nm, .int .i64 f, .int .i64 d, v, .int .i64 dm]
theorem add_cc (t : TypeId) (a : Int) (n : Nat) (ha : -1000000000 ≤ a ∧ a ≤ 9000000000000000000) (hn : n ≤ 1000000000) : binOp .add t (.int .i64 a) (.int .i64 (n : Int)) = pure (.int .i64 (a + n)) := by
  rw [binOp_add]
  simp only [Op.intArith]
  rw [IntWalk.i64_in _ (by omega)]
set_option maxHeartbeats 400000 in
theorem width_any (nm : Bs) (f d : Int) (A : Option Addr) (n c : Nat) (dm : Int) (z : Int) (hz : binOp .add 3 (.int .i64 d) (.int .i64 (n : Int)) = pure (.int .i64 z)) (w : World) :
    Calls Tryz.prog 36 #[cdV nm f d (.slice A n c) dm] w fun e w' => e = .returned (.int .i64 z) ∧ Below w.heap.size w w' := by
  have hb := Blk.new w 24 [sv nm, .int .i64 f, .int .i64 d, .slice A n c, .int .i64 dm]
  have c2 : (w.alloc (.cells #[sv nm, .int .i64 f, .int .i64 d, .slice A n c, .int .i64 dm] 24)).cell? ⟨w.heap.size, 2, none⟩ = _ := hb.cell 2
  have c3 : (w.alloc (.cells #[sv nm, .int .i64 f, .int .i64 d, .slice A n c, .int .i64 dm] 24)).cell? ⟨w.heap.size, 3, none⟩ = _ := hb.cell 3
  clear hb
  go_enter Tryz.func36, Tryz.ntmps36
  go_wp2_with fail
  go_ret
  exact ⟨rfl, below_new w _⟩
set_option maxHeartbeats 400000 in
theorem isDomain_any (nm : Bs) (f d : Int) (A : Option Addr) (n c : Nat) (dm : Int) (z : Int) (hz : binOp .add 3 (.int .i64 d) (.int .i64 (n : Int)) = pure (.int .i64 z)) (x : Int) (w : World) :
    Calls Tryz.prog 38 #[cdV nm f d (.slice A n c) dm, .int .i64 x] w fun e w' => e = .returned (.bool (decide (1 ≤ x ∧ x ≤ z))) ∧ Below w.heap.size w w' := by
  have HWI := hideIt (fun W => width_any nm f d A n c dm z hz W)
  clear hz
  by_cases h1 : x ≥ 1
  · by_cases h2 : x ≤ z
    · rw [decide_eq_true ⟨h1, h2⟩]
      go_enter Tryz.func38, Tryz.ntmps38
      go_wp2_with (go_at_call 36; refine (HWI.out _).mono ?_; rintro e w1 ⟨rfl, hb⟩; have HB1 := hideIt hb; clear hb)
      go_ret
      exact ⟨rfl, (below_new w _).trans (HB1.out.mono (below_new w _).size)⟩
    · rw [decide_eq_false (fun h => h2 h.2)]
      go_enter Tryz.func38, Tryz.ntmps38
      go_wp2_with (go_at_call 36; refine (HWI.out _).mono ?_; rintro e w1 ⟨rfl, hb⟩; have HB1 := hideIt hb; clear hb)
      go_ret
      exact ⟨by show Ending.returned (.bool (decide (x ≤ z))) = _; rw [decide_eq_false (Int.not_le.2 h2)], (below_new w _).trans (HB1.out.mono (below_new w _).size)⟩
  · rw [decide_eq_false (fun h => h1 h.1)]
    go_enter Tryz.func38, Tryz.ntmps38
    go_wp2_with fail
    go_ret
    exact ⟨rfl, below_new w _⟩

end Go.Proofs.YtcogkdnlpjfgdaaGreatDoor
