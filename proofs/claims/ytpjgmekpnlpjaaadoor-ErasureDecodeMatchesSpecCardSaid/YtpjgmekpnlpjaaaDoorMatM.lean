/-
  Matrices in memory: a struct's cells, slices of integers, what a call leaves as it was. No program stands behind this text.
-/
import Derived.Test.YtpjgmekpnlpjaaaDoorOnceU
import Derived.Test.YtpjgmekpnlpjaaaDoorFldOk
import Derived.Test.YtpjgmekpnlpjaaaDoorMatA
import Derived.Deep.LoopGhost
import Derived.Great.BuildSlice
namespace Go.Proofs.YtpjgmekpnlpjaaaDoor
open Go.RowKit
set_option linter.unusedVariables false
set_option linter.unusedSimpArgs false

/-- A matrix as it comes. -/
structure Mt where
  F : Int
  R : Int
  C : Int
  l : List Int
abbrev mtV (F R C : Int) (s : Value) : Value := .agg #[.int .i64 F, .int .i64 R, .int .i64 C, s]
/-- The cells of a struct's box. -/
abbrev mtC (F R C : Int) (s : Value) : List Value := [.int .i64 F, .int .i64 R, .int .i64 C, s]
/-- May a matrix have n rows? -/
def isz (n : Int) : Bool := decide (0 ≤ n ∧ n ≤ 32)
theorem isz_spec {n : Int} (h : isz n = true) : ∃ k : Nat, n = (k : Int) ∧ k ≤ 32 := by
  unfold isz at h
  have := of_decide_eq_true h
  exact ⟨n.toNat, by omega, by omega⟩
theorem isz_nat {n : Nat} (h : n ≤ 32) : isz (n : Int) = true := by unfold isz; apply decide_eq_true; omega
/-- Is a matrix valid? -/
def vM (a : Mt) : Bool := vd a.F 0 && isz a.R && isz a.C && decide ((a.l.length : Int) = a.R * a.C) && a.l.all (vd a.F)
def Mt.f (a : Mt) (k : Nat) : Nat := (a.l.getD k 0).toNat
/-- The element in a row and a column. -/
def Mt.e (a : Mt) : Mx := fun i j => a.f (i * a.C.toNat + j)
/-- A list of natural numbers as integers. -/
def nl (n : Nat) (f : Nat → Nat) : List Int := (List.range n).map fun k => (f k : Int)
theorem nl_len (n : Nat) (f : Nat → Nat) : (nl n f).length = n := by unfold nl; simp
theorem nl_at {n : Nat} (f : Nat → Nat) {k : Nat} (hk : k < n) : (nl n f)[k]? = some (f k : Int) := by unfold nl; simp [hk]
theorem nl_get {n : Nat} (f : Nat → Nat) (k : Nat) (h : k < (nl n f).length) : (nl n f)[k] = (f k : Int) := by
  have h2 := nl_at f (show k < n by rw [nl_len] at h; exact h)
  rw [List.getElem?_eq_getElem h] at h2
  exact Option.some.inj h2
theorem nl_getD {n : Nat} (f : Nat → Nat) {k : Nat} (hk : k < n) : (nl n f).getD k 0 = (f k : Int) := by rw [List.getD_eq_getElem?_getD, nl_at f hk]; rfl
theorem nl_congr {n : Nat} {f g : Nat → Nat} (h : ∀ k, k < n → f k = g k) : nl n f = nl n g := by
  unfold nl
  apply List.map_congr_left
  intro k hk
  rw [h k (List.mem_range.1 hk)]
theorem nl_ext {l : List Int} {f : Nat → Nat} (h : ∀ k (hk : k < l.length), l[k] = (f k : Int)) : l = nl l.length f := by
  apply List.ext_getElem
  · rw [nl_len]
  · intro k h1 h2
    rw [h k h1, nl_get]
/-- The matrix with these elements. -/
def mkM (m R C : Nat) (A : Mx) : Mt := ⟨(m : Int), (R : Int), (C : Int), nl (R * C) fun k => A (k / C) (k % C)⟩
def zeroM : Mt := ⟨0, 0, 0, []⟩
theorem ix_lt {i j R C : Nat} (hi : i < R) (hj : j < C) : i * C + j < R * C := by
  have : (i + 1) * C ≤ R * C := Nat.mul_le_mul_right _ hi
  rw [Nat.add_mul] at this
  omega
theorem ix_div {i j C : Nat} (hj : j < C) : (i * C + j) / C = i := by
  rw [Nat.mul_comm, Nat.mul_add_div (by omega), Nat.div_eq_of_lt hj, Nat.add_zero]
theorem ix_mod {i j C : Nat} (hj : j < C) : (i * C + j) % C = j := by
  rw [Nat.mul_comm, Nat.mul_add_mod, Nat.mod_eq_of_lt hj]
theorem ix_of {k R C : Nat} (hk : k < R * C) : k / C < R ∧ k % C < C ∧ k = k / C * C + k % C := by
  have hC : 0 < C := by rcases Nat.eq_zero_or_pos C with h | h; · subst h; simp at hk
                        · exact h
  refine ⟨by rw [Nat.div_lt_iff_lt_mul hC]; exact hk, Nat.mod_lt _ hC, ?_⟩
  rw [Nat.mul_comm]; exact (Nat.div_add_mod k C).symm
theorem mkM_e {m R C : Nat} {A : Mx} {i j : Nat} (hi : i < R) (hj : j < C) : (mkM m R C A).e i j = A i j := by
  unfold Mt.e Mt.f mkM
  simp only [Int.toNat_natCast]
  rw [nl_getD _ (ix_lt hi hj), Int.toNat_natCast, ix_div hj, ix_mod hj]
theorem mkM_congr {m R C : Nat} {A B : Mx} (h : ∀ i j, i < R → j < C → A i j = B i j) : mkM m R C A = mkM m R C B := by
  unfold mkM
  congr 1
  apply nl_congr
  intro k hk
  obtain ⟨h1, h2, _⟩ := ix_of hk
  exact h _ _ h1 h2
theorem vM_spec {a : Mt} (h : vM a = true) : ∃ m R C : Nat, a.F = (m : Int) ∧ a.R = (R : Int) ∧ a.C = (C : Int) ∧ Fm m ∧ R ≤ 32 ∧ C ≤ 32 ∧ a.l.length = R * C ∧ (∀ k, a.f k < 2 ^ m) ∧ a.l = nl (R * C) a.f := by
  unfold vM at h
  simp only [Bool.and_eq_true, decide_eq_true_eq] at h
  obtain ⟨⟨⟨⟨h1, h2⟩, h3⟩, h4⟩, h5⟩ := h
  obtain ⟨m, x, hm, hx, hF, _⟩ := vd_spec h1
  obtain ⟨R, hR, hR2⟩ := isz_spec h2
  obtain ⟨C, hC, hC2⟩ := isz_spec h3
  rw [hR, hC] at h4
  have h4 : a.l.length = R * C := by exact_mod_cast h4
  have hall : ∀ k (hk : k < a.l.length), ∃ x : Nat, a.l[k] = (x : Int) ∧ x < 2 ^ m := fun k hk => by
    have := List.all_eq_true.1 h5 _ (List.getElem_mem hk)
    obtain ⟨m', x, e1, e2, _, e3⟩ := vd_spec this
    obtain rfl : m = m' := by rw [hm] at e1; omega
    exact ⟨x, e2, e3⟩
  refine ⟨m, R, C, hm, hR, hC, hF, hR2, hC2, h4, fun k => ?_, ?_⟩
  · unfold Mt.f
    rcases Nat.lt_or_ge k a.l.length with hk | hk
    · rw [List.getD_eq_getElem?_getD, List.getElem?_eq_getElem hk]
      obtain ⟨x, e1, e2⟩ := hall k hk
      show a.l[k].toNat < _
      rw [e1]; exact e2
    · rw [List.getD_eq_getElem?_getD, List.getElem?_eq_none hk]
      exact Nat.two_pow_pos m
  · rw [← h4]
    apply nl_ext
    intro k hk
    obtain ⟨x, e1, e2⟩ := hall k hk
    unfold Mt.f
    rw [List.getD_eq_getElem?_getD, List.getElem?_eq_getElem hk]
    show a.l[k] = ((a.l[k].toNat : Nat) : Int)
    rw [e1]; rfl
theorem vM_mk {m R C : Nat} {A : Mx} (hm : Fm m) (hR : R ≤ 32) (hC : C ≤ 32) (hA : ∀ i j, i < R → j < C → A i j < 2 ^ m) : vM (mkM m R C A) = true := by
  unfold vM mkM
  simp only [Bool.and_eq_true, decide_eq_true_eq]
  refine ⟨⟨⟨⟨vd_true (a := 0) hm (Nat.two_pow_pos m), isz_nat hR⟩, isz_nat hC⟩, by rw [nl_len]; push_cast; rfl⟩, List.all_eq_true.2 fun x hx => ?_⟩
  unfold nl at hx
  obtain ⟨k, hk, rfl⟩ := List.mem_map.1 hx
  obtain ⟨h1, h2, _⟩ := ix_of (List.mem_range.1 hk)
  exact vd_true hm (hA _ _ h1 h2)
/-- A valid matrix is what its elements make. -/
theorem vM_is {a : Mt} (h : vM a = true) : ∃ m R C : Nat, Fm m ∧ R ≤ 32 ∧ C ≤ 32 ∧ Vm m a.e ∧ a = mkM m R C a.e := by
  obtain ⟨m, R, C, h1, h2, h3, h4, h5, h6, h7, h8, h9⟩ := vM_spec h
  refine ⟨m, R, C, h4, h5, h6, fun i j => h8 _, ?_⟩
  obtain ⟨F, R', C', l⟩ := a
  simp only at h1 h2 h3
  subst h1 h2 h3
  unfold mkM
  congr 1
  refine h9.trans (nl_congr fun k hk => ?_)
  unfold Mt.e
  simp only [Int.toNat_natCast]
  rw [← (ix_of hk).2.2]

/-- Cells of integers. -/
theorem iv_one (l : List Int) (u : Value) (h : u ∈ l.map iv) : u.oneCell' = true := by
  obtain ⟨b, _, rfl⟩ := List.mem_map.1 h
  rfl
theorem iv_at {n : Nat} {f : Nat → Nat} {k : Nat} (hk : k < n) : ((nl n f).map iv)[k]? = some (.int .i64 (f k : Int)) := by
  rw [List.getElem?_map, nl_at f hk]; rfl
theorem set_nl {n : Nat} (f : Nat → Nat) (i x : Nat) (hi : i < n) : ((nl n f).map iv).set i (.int .i64 (x : Int)) = (nl n fun k => if k = i then x else f k).map iv := by
  apply List.ext_getElem
  · simp [nl_len]
  · intro k h1 h2
    rw [List.getElem_set]
    simp only [List.length_set, List.length_map, nl_len] at h1
    rw [List.getElem_map, List.getElem_map, nl_get, nl_get]
    by_cases e : k = i
    · rw [if_pos e.symm, if_pos e]
    · rw [if_neg (Ne.symm e), if_neg e]
theorem zeros_nl (n : Nat) : List.replicate n (Value.int .i64 0) = (nl n fun _ => 0).map iv := by
  apply List.ext_getElem
  · simp [nl_len]
  · intro k h1 h2
    rw [List.getElem_replicate, List.getElem_map, nl_get]
    rfl

theorem results_two {P : Program} {fn : Func} {p t : Tmp} {T : TypeId} (h : fn.results = #[.cell p T, .tmp t]) (tmps : Array Value) (w : World) (g : Nat) (ty : TypeId) (cs : List Value) (d : TypeDesc)
    (hp : tmps.getD p undef = .pointer (some ⟨g, 0, none⟩)) (hg : Blk w g ty cs) (hu : P.underlying T = some d) (hd : d.isRow = true) (hi : (P.info? T).map (·.size) = some cs.length) :
    (results fn tmps).run P w = .ok (.tuple #[.agg cs.toArray, tmps.getD t undef]) w := by
  have hl := run_loadVar_mid (P := P) w g 0 T cs d (fun j v hv => by rw [hg.cell, Nat.zero_add]; exact hv) hu hd hi
  have ha : ∀ W, (asAddr (.pointer (some ⟨g, 0, none⟩))).run P W = .ok ⟨g, 0, none⟩ W := fun _ => rfl
  simp only [results, h]
  simp only [List.mapM_cons, List.mapM_nil, hp, bind_pure_comp, map_pure, Array.mapM_eq_mapM_toList]
  simp [Sem.run_bind, ha, hl, Result.andThen]

end Go.Proofs.YtpjgmekpnlpjaaaDoor
