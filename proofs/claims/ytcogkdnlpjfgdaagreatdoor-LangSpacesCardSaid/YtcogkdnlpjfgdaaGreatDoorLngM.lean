/-
  The parser in memory: strings, tokens, its cells; where it has stopped. No program stands behind this text.
-/
import Derived.Test.YtcogkdnlpjfgdaaGreatDoorLngG
import Derived.Test.YtcogkdnlpjfgdaaGreatDoorOnceU
import Derived.Defers
import Derived.Recover
import Derived.Shelf.Abstract
namespace Go.Proofs.YtcogkdnlpjfgdaaGreatDoor
open Go.RowKit
set_option linter.unusedVariables false
set_option linter.unusedSimpArgs false

/-- A text as a value. -/
def ss (l : Bs) : ByteArray := ⟨l.toArray⟩
abbrev sv (l : Bs) : Value := .string (ss l)
theorem ss_list (l : Bs) : (ss l).data.toList = l := by unfold ss; simp
theorem ss_size (l : Bs) : (ss l).size = l.length := by unfold ss; simp [ByteArray.size]
theorem ss_inj {a b : Bs} : ss a = ss b ↔ a = b := ⟨fun h => by rw [← ss_list a, h, ss_list], fun h => by rw [h]⟩
theorem ss_of (s : ByteArray) : s = ss s.data.toList := by
  unfold ss
  simp

/-- The places of the library's own list of functions do not matter: what a panic with a syntax error is. -/
abbrev pan : Ending := .panicked [{ v := .iface 25 (.int .i64 3), recovered := false }]
/-- A token's cells. -/
abbrev tkC (x : Tk) : List Value := [.int .i64 (x.ps : Int), sv x.tx]
abbrev tkV (x : Tk) : Value := .agg #[.int .i64 (x.ps : Int), sv x.tx]
/-- The parser's cells: the text, the token that it stands at, what follows it. -/
abbrev prC (t : Bs) (x : Tk) : List Value := [sv t, .int .i64 (x.ps : Int), sv x.tx, sv (t.drop (x.ps + x.tx.length))]
/-- The parser stands at token number i, and has met no error. -/
def PT (w : World) (pb : Nat) (t : Bs) (i : Nat) : Prop := ∃ x, (toks t)[i]? = some x ∧ x.kd ≠ 5 ∧ Blk w pb 102 (prC t x)
/-- An error at offset A is found, or about to be found. -/
def Dead (l : List Tk) (s : PS) (A : Nat) : Prop := (0 ≤ s.bad ∧ s.bad = (A : Int)) ∨ (s.bad < 0 ∧ (cur l s).kd = 5 ∧ (cur l s).ps = A)
section
variable {l : List Tk} {A : Nat} {s : PS}
theorem dead_fail (h : Dead l s A) : Dead l (failP l s) A := by
  rcases h with ⟨h1, h2⟩ | ⟨h1, h2, h3⟩
  · rw [failP_stuck h1]; exact .inl ⟨h1, h2⟩
  · unfold failP
    rw [if_pos h1, h3]
    exact .inl ⟨Int.natCast_nonneg _, rfl⟩
theorem dead_is (h : Dead l s A) (t : Bs) : isP l t s = false := by
  rcases h with ⟨h1, h2⟩ | ⟨h1, h2, h3⟩
  · exact isP_neg h1
  · unfold isP
    exact decide_eq_false fun q => by omega
theorem dead_must (h : Dead l s A) (t : Bs) : Dead l (mustP l t s) A := by
  unfold mustP
  rw [dead_is h, if_neg (by simp)]
  exact dead_fail h
theorem dead_kind (h : Dead l s A) {k : Nat} (hk : k ≠ 5) : Dead l (kindP l k s) A := by
  unfold kindP
  rw [if_neg]
  · exact dead_fail h
  · rcases h with ⟨h1, h2⟩ | ⟨h1, h2, h3⟩
    · omega
    · omega
theorem dead_numsG : ∀ (f : Nat) {s : PS} (out : List Tk), Dead l s A → Dead l (numsG l f s out).2 A
  | 0, s, out, h => h
  | f + 1, s, out, h => by
    rw [numsG]
    split
    · exact dead_numsG f _ (dead_kind h (by decide))
    · exact h
theorem dead_numsP (h : Dead l s A) : Dead l (numsP l s).2 A := dead_numsG _ _ (dead_kind h (by decide))
theorem dead_oneP (h : Dead l s A) (k : Bs) : Dead l (oneP l k s).2 A := dead_must (dead_kind (dead_must h k) (by decide)) _
theorem dead_rowP (h : Dead l s A) : Dead l (rowP l s).2 A := by
  unfold rowP
  rw [dead_is h, if_neg (by simp)]
  exact dead_must (dead_numsP (dead_must h _)) _
theorem dead_rowsG : ∀ (f : Nat) (b : Bool) {s : PS} (out : List Ln), Dead l s A → Dead l (rowsG l f b s out).2 A
  | 0, b, s, out, h => h
  | f + 1, b, s, out, h => by
    rw [rowsG]
    split
    · exact dead_rowsG f _ _ (dead_rowP h)
    · exact h
theorem dead_endP {r : List Ln × PS} (h : Dead l r.2 A) : Dead l (endP l r).2 A := by
  unfold endP
  rw [dead_is h, if_neg (by simp)]
  exact h
theorem dead_bodyP (h : Dead l s A) : Dead l (bodyP l s).2 A := dead_rowsG _ _ _ (dead_oneP (dead_oneP h _) _)
theorem dead_headP (h : Dead l s A) : Dead l (headP l s) A := dead_must (dead_kind (dead_must h _) (by decide)) _
theorem dead_codeP (h : Dead l s A) : Dead l (codeP l s).2 A := dead_must (dead_endP (dead_bodyP (dead_headP h))) _
theorem dead_four (h : Dead l s A) : (kindP l 4 s).bad = (A : Int) := by
  have h1 := dead_kind h (k := 4) (by decide)
  rcases h with ⟨h2, h3⟩ | ⟨h2, h3, h4⟩
  · rw [kindP_stuck h2]; exact h3
  · unfold kindP
    rw [if_neg (by omega)]
    unfold failP
    rw [if_pos h2, h4]
end

/-- How a function of the parser ends: V is what it hands back. -/
def PEnd (t : Bs) (pb : Nat) (s' : PS) (V : Value → World → Prop) (e : Ending) (w' : World) : Prop :=
  (∃ v, e = .returned v ∧ s'.bad = -1 ∧ V v w' ∧ PT w' pb t s'.i) ∨ (e = pan ∧ ∃ y, Blk w' pb 102 (prC t y) ∧ Dead (toks t) s' y.ps)

/-- A function value that asks K of a text. -/
def AsksT (w : World) (v : Value) (K : Bs → Bool) : Prop :=
  ∃ f caps, v = .func (.func f) #[] caps ∧ Enters Tryz.prog f ∧ ∀ w', Below w.heap.size w w' → ∀ x : Bs, x.length ≤ 2000 → Calls Tryz.prog f (#[sv x] ++ caps) w' fun e w'' => e = .returned (.bool (K x)) ∧ Below w'.heap.size w' w''

theorem KeepT.blk_other {B : Nat} {ts : List TypeId} {w w' : World} {g : Nat} {t : TypeId} {cs : List Value} (hk : KeepT B ts w w') (h : Blk w g t cs) (ht : t ∉ ts) : Blk w' g t cs := h.keepT hk ht
theorem keepT_alloc {B : Nat} {ts : List TypeId} {w0 w : World} (h : KeepT B ts w0 w) (hB : B ≤ w0.heap.size) (o : Obj) : KeepT B ts w0 (w.alloc o) :=
  h.since ((Below.refl _ _).alloc h.size o) hB
theorem keepT_set {B : Nat} {w0 w : World} {pb : Nat} {T : TypeId} {cs : List Value} {o : Nat} {v : Value} (h : KeepT B [T] w0 w) (hb : Blk w pb T cs) (hp : B ≤ pb) : KeepT B [T] w0 (w.setCell ⟨pb, o, none⟩ v) := by
  refine h.trans ⟨rfl, rfl, rfl, by simp [World.setCell], fun k hk => Below.heap_setCell _ _ _ _ (by show k ≠ pb; omega), fun k cs' t' f hk hh => Below.heap_setCell _ _ _ _ ?_⟩
  intro e
  have e : k = pb := e
  subst e
  unfold Blk at hb
  rw [hb] at hk
  injection hk with hk
  injection hk with _ hk
  exact hh (by simp [hk])

end Go.Proofs.YtcogkdnlpjfgdaaGreatDoor
