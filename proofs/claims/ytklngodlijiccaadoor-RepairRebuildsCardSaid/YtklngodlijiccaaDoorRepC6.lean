/-
  Units set by others: what Apply answers does not turn on units that the plan does not read; a map of the units read.
-/
import Derived.Maps.Own
import Derived.Maps.OwnOps
import Derived.Test.YtklngodlijiccaaDoorRepC4
namespace Go.Proofs.YtklngodlijiccaaDoor
open Go.RowKit
set_option linter.unusedVariables false
section
variable {x : Cd} {m n : Nat}
theorem apply_good (h : VC x m n) (hv : vC x = true) {us : List (List UInt8)} (hn : us.length = n) (hal : alk m us = true) {hs : List Bool} (hl : hs.length = n + x.par.length) {k : Nat} (hk : k < hs.length) {L : List (Nat × Nat)} (hg : GoodT x m n hs k L) (hpos : 0 < L.length)
    {V : List (List UInt8)} (hV : V.length = n + x.par.length) (hp : ∀ t ∈ L, V.getD t.1 [] = (us ++ x.par.map (fun r => cbS x.field r us)).getD t.1 []) :
    aplR x (k : Int) (zt L) V = ((us ++ x.par.map (fun r => cbS x.field r us)).getD k [], 0) := by
  obtain ⟨h1, h2⟩ := sum_good h hn hal hl hk hg hp
  have hw : wC x = ((n + x.par.length : Nat) : Int) := by
    unfold wC
    rw [if_pos hv, h.d]
    omega
  have hp0 := h.pos
  have e1 : cfz (zt L) = L.map fun t => (t.2 : Int) := by
    show (zt L).map _ = _
    rw [List.map_map]; rfl
  have e2 : smz (zt L) V = L.map fun t => V.getD t.1 [] := by
    show (zt L).map _ = _
    rw [List.map_map]; rfl
  unfold aplR
  rw [if_pos ⟨by omega, by omega, by omega, by omega, by rw [List.length_map]; omega, List.all_eq_true.2 fun t ht => by
    obtain ⟨q, hq, rfl⟩ := List.mem_map.1 ht
    have := (hg.mem q hq).1
    exact decide_eq_true ⟨by show (0 : Int) ≤ (q.1 : Int); omega, by show (q.1 : Int) < (V.length : Int); omega⟩⟩]
  rw [e1, e2]
  have h3 : cbS x.field (L.map fun t => (t.2 : Int)) (L.map fun t => V.getD t.1 []) = _ := h1
  rw [h3]
  unfold cbE
  rw [if_pos (by rw [h.f]; exact h2)]
theorem enc_len (h : VC x m n) {us : List (List UInt8)} (hn : us.length = n) (hal : alk m us = true) {u : Nat} (hu : u < n + x.par.length) : ((us ++ x.par.map (fun r => cbS x.field r us)).getD u []).length = ul us := by
  have hA := (alk_iff8 m us).1 hal
  have hpos := h.pos
  have hsz : ul us % (m / 8) = 0 := by
    have h1 := hA us[0] (List.getElem_mem (by omega))
    rw [← h1.1]; exact h1.2
  have hd : ∀ k, k < n → ((fun j => us.getD j []) k).length = ul us := fun k hk => by
    show (us.getD k []).length = _
    rw [show us.getD k [] = us[k] by simp [List.getD_eq_getElem?_getD, show k < us.length by omega]]
    exact (hA _ (List.getElem_mem _)).1
  rw [enc_unit h hn hal hu, lc_len h.fm hsz hd _ n (Nat.le_refl _)]
theorem enc_fine {us U : List (List UInt8)} (h : encR x us = (U, 0)) : vC x = true ∧ (us.length : Int) = x.data ∧ alk x.field.toNat us = true ∧ U = us ++ x.par.map (fun r => cbS x.field r us) := by
  unfold encR at h
  split at h
  · next hc =>
    simp only [Prod.mk.injEq, and_true] at h
    exact ⟨hc.1, hc.2.1, hc.2.2, h.symm⟩
  · simp at h
end
/-- The units that stand in the map stay, all others are junk. -/
def junkR (ns : List Int) (J : List UInt8) (U : List (List UInt8)) (i : Nat) : List (List UInt8) := (List.range U.length).map fun j => if j < i ∧ ¬ ((j : Nat) : Int) ∈ ns then J else U.getD j []
theorem junk_len (ns : List Int) (J : List UInt8) (U : List (List UInt8)) (i : Nat) : (junkR ns J U i).length = U.length := by unfold junkR; rw [List.length_map, List.length_range]
theorem junk_at {ns : List Int} {J : List UInt8} {U : List (List UInt8)} {i j : Nat} (h : j < U.length) : (junkR ns J U i)[j]? = some (if j < i ∧ ¬ ((j : Nat) : Int) ∈ ns then J else U.getD j []) := by
  unfold junkR
  rw [List.getElem?_map, List.getElem?_range h]; rfl
theorem junk_zero (ns : List Int) (J : List UInt8) (U : List (List UInt8)) : junkR ns J U 0 = U := by
  refine List.ext_getElem? fun j => ?_
  rcases Nat.lt_or_ge j U.length with h | h
  · rw [junk_at h, if_neg (fun q => Nat.not_lt_zero _ q.1), List.getD_eq_getElem?_getD, List.getElem?_eq_getElem h]; rfl
  · rw [List.getElem?_eq_none (by rw [junk_len]; exact h), List.getElem?_eq_none h]
theorem junk_keep {ns : List Int} {J : List UInt8} {U : List (List UInt8)} {i : Nat} (h : ((i : Nat) : Int) ∈ ns) : junkR ns J U (i + 1) = junkR ns J U i := by
  refine List.ext_getElem? fun j => ?_
  rcases Nat.lt_or_ge j U.length with hj | hj
  · rw [junk_at hj, junk_at hj]
    by_cases e : j = i
    · subst e; rw [if_neg (fun q => q.2 h), if_neg (fun q => q.2 h)]
    · congr 2; rw [show (j < i + 1) = (j < i) from propext ⟨fun q => by omega, fun q => by omega⟩]
  · rw [List.getElem?_eq_none (by rw [junk_len]; exact hj), List.getElem?_eq_none (by rw [junk_len]; exact hj)]
theorem junk_set {ns : List Int} {J : List UInt8} {U : List (List UInt8)} {i : Nat} (h : ¬ ((i : Nat) : Int) ∈ ns) (hi : i < U.length) : (junkR ns J U i).set i J = junkR ns J U (i + 1) := by
  refine List.ext_getElem? fun j => ?_
  rcases Nat.lt_or_ge j U.length with hj | hj
  · rw [List.getElem?_set, junk_at hj, junk_at hj, junk_len]
    by_cases e : i = j
    · subst e; rw [if_pos rfl, if_pos hi, if_pos ⟨by omega, h⟩]
    · rw [if_neg e]; congr 2; rw [show (j < i + 1) = (j < i) from propext ⟨fun q => by omega, fun q => by omega⟩]
  · rw [List.getElem?_eq_none (by rw [List.length_set, junk_len]; exact hj), List.getElem?_eq_none (by rw [junk_len]; exact hj)]
theorem junk_read {ns : List Int} {J : List UInt8} {U : List (List UInt8)} {i j : Nat} (h : ((j : Nat) : Int) ∈ ns) (hj : j < U.length) : (junkR ns J U i).getD j [] = U.getD j [] := by
  rw [List.getD_eq_getElem?_getD, junk_at hj, if_neg (fun q => q.2 h)]; rfl
section
open Go.WideMaps Go.Maps
theorem lawI : Keyed Tryd.prog 3 := int_keyed Tryd.underlying3
theorem zeroI (w : World) : (zeroValue 4).run Tryd.prog w = .ok (.bool false) w := by kernel_rfl
abbrev OI (W : World) (B n : Nat) (D : DataW Unit) : Prop := W.ownsMap Tryd.prog 3 (plainElem Tryd.prog 4) B n D
def SeenI (D : DataW Unit) (ns : List Int) : Prop := Maps.IsMap D ∧ ∀ k : Int, D.atKey (.int .i64 k) (.lit (.bool false)) = .lit (.bool (decide (k ∈ ns)))
theorem SeenI.nil : SeenI (.map []) [] := ⟨Maps.isMap_empty, fun nm => rfl⟩
theorem SeenI.put {D : DataW Unit} {ns : List Int} {q : Int} (h : SeenI D ns) : SeenI (D.put (.int .i64 q) (.lit (.bool true))) (ns ++ [q]) := by
  refine ⟨h.1.put _ _, fun x => ?_⟩
  by_cases hx : x = q
  · subst hx
    rw [Maps.atKey_put_same h.1 (by trivial), decide_eq_true (by simp)]
  · rw [Maps.atKey_put_other (by intro e; injection e with _ e; exact hx e), h.2]
    congr 3
    simp [hx]
theorem OI.below {W W' : World} {b n : Nat} {D : DataW Unit} (h : OI W b n D) (hb : Below W.heap.size W W') : OI W' b n D := by
  have hlt := h.lt
  obtain ⟨es, clock, hh, r⟩ := h
  exact ⟨es, clock, (hb.block b hlt).trans hh, r⟩
theorem keyI (q : Int) (h : -9223372036854775808 ≤ q ∧ q ≤ 9223372036854775807) : keyOf Tryd.prog 3 (.int .i64 q) = some (.int .i64 q) := keyOf_int_mk Tryd.underlying3 (WalkArith.wf_i64 h)
set_option maxRecDepth 100000 in
theorem look_I {W : World} {b n : Nat} {D : DataW Unit} {ns : List Int} (h : OI W b n D) (hs : SeenI D ns) (q : Int) (hq : -9223372036854775808 ≤ q ∧ q ≤ 9223372036854775807) :
    (Instr.lookup 51 (.map (some b)) (.int .i64 q) false).run Tryd.prog W = .ok (.bool (decide (q ∈ ns))) W := by
  obtain ⟨v, ps, hrun, hv⟩ := h.lookup lawI Tryd.underlying51 (zeroI W) (plainElem_bool Tryd.underlying4 false) (keyI q hq)
  rw [hs.2] at hv
  have hvb : v = .bool (decide (q ∈ ns)) := by
    unfold plainElem at hv
    rw [Tryd.underlying4] at hv
    cases v <;> simp_all
  rw [hvb] at hrun
  exact hrun
end
end Go.Proofs.YtklngodlijiccaaDoor
