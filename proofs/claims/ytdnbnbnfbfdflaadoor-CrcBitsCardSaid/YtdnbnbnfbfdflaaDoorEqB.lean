/-
  Arrays of bytes, compared item by item. No program stands behind this text.
-/
import Derived.Test.YtdnbnbnfbfdflaaDoorRows
import Derived.Test.YtdnbnbnfbfdflaaDoorLib
import Derived.ChangeKeysEq
import Derived.Deep.MidRow
namespace Go.Proofs.YtdnbnbnfbfdflaaDoor
open Go.RowKit
set_option linter.unusedVariables false

theorem eqItems_bytes {P : Program} {e : TypeId} (he : P.underlying e = some (.int .u8)) (hs : ∀ w, (isAgg e).run P w = .ok false w) (dep : Nat) (a b : List UInt8) (w : World) :
    ∀ is : List Nat, (∀ i ∈ is, i < a.length ∧ i < b.length) →
      (Op.eqItems (dep + 1) e 1 (a.map bv).toArray (b.map bv).toArray is).run P w = .ok (is.all fun i => a[i]? == b[i]?) w := by
  intro is
  induction is with
  | nil => intro _; simp [Op.eqItems]
  | cons i is ih =>
    intro h
    have hi := h i (by simp)
    have ih' := ih fun j hj => h j (by simp [hj])
    have p1 : (part e (a.map bv).toArray (i * 1)).run P w = .ok (bv a[i]) w := by
      simp [part, Sem.run_bind, hs, hi.1]
    have p2 : (part e (b.map bv).toArray (i * 1)).run P w = .ok (bv b[i]) w := by
      simp [part, Sem.run_bind, hs, hi.2]
    have p3 : (Op.equalIn (dep + 1) e (bv a[i]) (bv b[i])).run P w = .ok ((a[i].toNat : Int) == (b[i].toNat : Int)) w := run_equalIn_int w dep e .u8 .u8 _ _ he
    simp only [Op.eqItems, Sem.run_bind, p1, p2, p3, Result.andThen_ok, List.all_cons]
    have e1 : a[i]? = some a[i] := List.getElem?_eq_getElem hi.1
    have e2 : b[i]? = some b[i] := List.getElem?_eq_getElem hi.2
    rw [e1, e2]
    have e3 : ((a[i].toNat : Int) == (b[i].toNat : Int)) = (some a[i] == some b[i]) := by
      rw [Bool.eq_iff_iff]
      simp only [beq_iff_eq, Option.some.injEq]
      exact ⟨fun h => UInt8.toNat_inj.1 (by omega), fun h => by rw [h]⟩
    rw [e3]
    cases hq : (some a[i] == some b[i])
    · simp
    · simpa using ih'

end Go.Proofs.YtdnbnbnfbfdflaaDoor
