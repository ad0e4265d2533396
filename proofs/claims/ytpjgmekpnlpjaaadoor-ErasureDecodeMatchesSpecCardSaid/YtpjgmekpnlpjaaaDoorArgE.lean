/-
  Arguments that came in: slices of bytes and of integers, as lists.
-/
import Derived.Test.YtpjgmekpnlpjaaaDoorRows
import Derived.Test.YtpjgmekpnlpjaaaDoorLib
import Derived.WalkKit
import Derived.ProofKit
import Derived.OpenShut
import Derived.SizedLaws
import Derived.ShutString
import Derived.ChangeOld
import Derived.Below
namespace Go.Proofs.YtpjgmekpnlpjaaaDoor
open Go.ChangeShapes Go.WideShapes Go.ChangeAt Go.RowKit
set_option linter.unusedVariables false

theorem add_twice (a : Addr) (i j : Nat) : (a.add i).add j = a.add (i + j) := by
  unfold Addr.add
  by_cases hi : i = 0 <;> by_cases hj : j = 0 <;> simp [hi, hj, Nat.add_assoc]
theorem add_block (a : Addr) (i : Nat) : (a.add i).block = a.block := by unfold Addr.add; split <;> rfl

/-- A slice that came in, element by element. -/
theorem open_elems {H : Type} {enc : TypeId × Value → H} {P : Program} {w : World} {base : Nat} {spare : Nat → Bool} {held : Bool} {T e : TypeId} {size : Nat} (hT : P.underlying T = some (.slice e)) (hc : P.cellsOf e = size) (hs : 0 < size)
    (Good : List Value → Prop) (hG : ∀ n cs y, cs.length = size → DataW.trod enc P w base spare held n e cs = some y → Good cs)
    {fuel : Nat} {A : Option Addr} {len cap : Nat} {x : DataW H × List MemPlace} (h : DataW.trod enc P w base spare held fuel T [.slice A len cap] = some x) :
    len ≤ cap ∧ cap ≤ maxLen ∧ ((x.1 = .nil ∧ len = 0) ∨ ∃ es rs, x.1 = .slice es rs ∧ es.length = len) ∧ ∃ css : List (List Value), css.length = len ∧ (∀ cs ∈ css, Good cs ∧ cs.length = size) ∧ Sl w w.heap.size A size len css.flatten := by
  rcases DataW.trod_slice hT h with ⟨h0, hx0⟩ | ⟨a, len', cap', elems, rest, n, _, h0, hx0, hb, hl, hm, hlen, hel, _, _⟩
  · simp only [List.cons.injEq, Value.slice.injEq, and_true] at h0
    obtain ⟨rfl, rfl, rfl⟩ := h0
    exact ⟨Nat.le_refl _, by decide, .inl ⟨by rw [hx0], rfl⟩, [], rfl, by simp, Sl.nil _ _ _ _⟩
  · simp only [List.cons.injEq, Value.slice.injEq, and_true] at h0
    obtain ⟨rfl, rfl, rfl⟩ := h0
    refine ⟨hl, hm, .inr ⟨_, _, by rw [hx0], by rw [List.length_map, hlen]⟩, ?_⟩
    have key : ∀ m, m ≤ len → ∃ css : List (List Value), css.length = m ∧ (∀ cs ∈ css, Good cs ∧ cs.length = size) ∧ css.flatten.length = m * size ∧ ∀ j u, css.flatten[j]? = some u → w.cell? (a.add j) = some u := by
      intro m
      induction m with
      | zero => intro _; exact ⟨[], rfl, by simp, by simp, by simp⟩
      | succ m ih =>
        intro hm'
        obtain ⟨css, q1, q2, q3, q4⟩ := ih (by omega)
        have h1 := hel m (by omega)
        rw [List.getElem?_eq_getElem (by omega), Option.bind_eq_some_iff] at h1
        obtain ⟨cs, hcs, hy⟩ := h1
        obtain ⟨_, p2, p3⟩ := World.cells?_some hcs
        rw [hc] at p2 p3
        refine ⟨css ++ [cs], by rw [List.length_append, q1]; rfl, ?_, ?_, ?_⟩
        · intro cs' hcs'
          rcases List.mem_append.1 hcs' with hh | hh
          · exact q2 cs' hh
          · rw [List.mem_singleton] at hh
            subst hh
            exact ⟨hG _ _ _ p2 hy, p2⟩
        · rw [List.flatten_append, List.length_append, q3, List.flatten_singleton, p2, Nat.succ_mul]
        · intro j u hu
          rw [List.flatten_append, List.flatten_singleton] at hu
          by_cases hj : j < m * size
          · rw [List.getElem?_append_left (by omega)] at hu
            exact q4 j u hu
          · rw [List.getElem?_append_right (by omega), q3] at hu
            have hlt : j - m * size < size := by
              have := (List.getElem?_eq_some_iff.1 hu).1
              omega
            have := p3 (j - m * size) hlt
            rw [add_twice, show m * size + (j - m * size) = j by omega] at this
            rw [this, hu]
    obtain ⟨css, q1, q2, q3, q4⟩ := key len (Nat.le_refl _)
    refine ⟨css, q1, q2, q3, fun hp => ?_⟩
    have hz := q4 0 _ (List.getElem?_eq_getElem hp)
    have hsp := World.cell?_spot hz
    have hbl := World.block_lt_of_cell? w _ hz
    rw [add_block] at hbl
    obtain ⟨b, off, spot⟩ := a
    have : spot = none := by simpa [Addr.add] using hsp
    subst this
    exact ⟨b, off, rfl, hbl, fun j u hu => by have := q4 j u hu; rwa [addr_add] at this⟩

theorem wf_u8 {n : Int} (h : (Lit.int .u8 n).wf = true) : 0 ≤ n ∧ n ≤ 255 := by simpa [Lit.wf, IntKind.min, IntKind.max, IntKind.signed, IntKind.bits] using h
theorem wf_i64 {n : Int} (h : (Lit.int .i64 n).wf = true) : -9223372036854775808 ≤ n ∧ n ≤ 9223372036854775807 := by simpa [Lit.wf, IntKind.min, IntKind.max, IntKind.signed, IntKind.bits] using h
theorem wf_i8 {n : Int} (h : (Lit.int .i8 n).wf = true) : -128 ≤ n ∧ n ≤ 127 := by simpa [Lit.wf, IntKind.min, IntKind.max, IntKind.signed, IntKind.bits] using h
theorem bv_of {n : Int} (h : 0 ≤ n ∧ n ≤ 255) : bv (UInt8.ofNat n.toNat) = .int .u8 n := by
  unfold bv
  congr 1
  rw [UInt8.toNat_ofNat']
  omega

theorem list_bv : ∀ cs : List Value, (∀ v ∈ cs, ∃ b : UInt8, v = bv b) → ∃ d : List UInt8, cs = d.map bv
  | [], _ => ⟨[], rfl⟩
  | v :: r, h => by
    obtain ⟨b, rfl⟩ := h v (by simp)
    obtain ⟨d, rfl⟩ := list_bv r fun u hu => h u (by simp [hu])
    exact ⟨b :: d, rfl⟩
theorem bytes_of : ∀ css : List (List Value), (∀ cs ∈ css, (∃ b : UInt8, cs = [bv b]) ∧ cs.length = 1) → ∃ l : List UInt8, l.length = css.length ∧ css.flatten = l.map bv
  | [], _ => ⟨[], rfl, rfl⟩
  | cs :: r, h => by
    obtain ⟨⟨b, rfl⟩, _⟩ := h cs (by simp)
    obtain ⟨l, h1, h2⟩ := bytes_of r fun x hx => h x (by simp [hx])
    exact ⟨b :: l, by simp [h1], by simp [h2]⟩
theorem nums_of : ∀ css : List (List Value), (∀ cs ∈ css, (∃ n : Int, cs = [iv n] ∧ -9223372036854775808 ≤ n ∧ n ≤ 9223372036854775807) ∧ cs.length = 1) →
    ∃ l : List Int, l.length = css.length ∧ css.flatten = l.map iv ∧ ∀ n ∈ l, -9223372036854775808 ≤ n ∧ n ≤ 9223372036854775807
  | [], _ => ⟨[], rfl, rfl, by simp⟩
  | cs :: r, h => by
    obtain ⟨⟨b, rfl, hb⟩, _⟩ := h cs (by simp)
    obtain ⟨l, h1, h2, h3⟩ := nums_of r fun x hx => h x (by simp [hx])
    exact ⟨b :: l, by simp [h1], by simp [h2], by intro n hn; rcases List.mem_cons.1 hn with rfl | hn; exact hb; exact h3 n hn⟩

end Go.Proofs.YtpjgmekpnlpjaaaDoor
