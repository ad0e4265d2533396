/-
  A basis under construction: its rows, all of them the call's own.
-/
import Derived.Test.YtpjgmekpnlpjaaaDoorEraN
namespace Go.Proofs.YtpjgmekpnlpjaaaDoor
open Go.RowKit
set_option linter.unusedVariables false
set_option linter.unusedSimpArgs false

theorem own_apart2 {w : World} {B B' n n' k k' : Nat} {e e' : TypeId} {v v' : Value} {xs xs' : List Value} (h : w.ownsRow B e k v n xs) (h' : w.ownsRow B' e' k' v' n' xs') (ht : e ≠ e') : Apart v v' := fun j h1 h2 => by
  rcases h.2 with ⟨rfl, _⟩ | ⟨g, c, cur, rfl, hg, hb, _⟩
  · cases h1
  · rcases h'.2 with ⟨rfl, _⟩ | ⟨g', c', cur', rfl, hg', hb', _⟩
    · cases h2
    · injection h1 with h1
      injection h2 with h2
      subst h1
      have h2 : g' = g := h2
      subst h2
      rw [hb] at hb'
      injection hb' with hb'
      injection hb' with _ hb' _
      exact ht hb'

abbrev rowsV (n : Nat) (gs : Nat → Nat) (p : Nat) : List Value := (List.range p).map fun i => .slice (some ⟨gs i, 0, none⟩) (n + n) (n + n)
theorem rowsV_snoc (n : Nat) (gs : Nat → Nat) (p g : Nat) : rowsV n (upd gs p g) (p + 1) = rowsV n gs p ++ [.slice (some ⟨g, 0, none⟩) (n + n) (n + n)] := by
  unfold rowsV
  rw [List.range_succ, List.map_append]
  congr 1
  · refine List.map_congr_left fun i hi => ?_
    unfold upd; rw [if_neg (by have := List.mem_range.1 hi; omega)]
  · simp [upd]
structure BaO (W : World) (base : Nat) (x : Cd) (n : Nat) (B pv : List Nat) (Q : Mx) (gA : Option Addr) (vU vR vP : Value) (gs : Nat → Nat) : Prop where
  gen : Sl W base gA 1 ((n + x.par.length) * n) ((genK x x.par.length).map iv)
  uni : W.ownsRow base 3 1 vU B.length (pvC B)
  row : W.ownsRow base 29 1 vR B.length (rowsV n gs B.length)
  piv : W.ownsRow base 3 1 vP B.length (pvC pv)
  ap : Apart vU vP
  dat : ∀ i, i < B.length → Blk W (gs i) 3 ((nl (n + n) (Q i)).map iv) ∧ base ≤ gs i ∧ vU.ownBlock ≠ some (gs i) ∧ vP.ownBlock ≠ some (gs i)
section
variable {W W' : World} {base : Nat} {x : Cd} {m n : Nat} {B pv : List Nat} {Q : Mx} {gA : Option Addr} {vU vR vP : Value} {gs : Nat → Nat}
theorem BaO.keep (h : BaO W base x n B pv Q gA vU vR vP gs) (hs : base ≤ W.heap.size) (hb : Below W.heap.size W W') : BaO W' base x n B pv Q gA vU vR vP gs :=
  ⟨h.gen.below (hb.mono hs), own_kept h.uni hb, own_kept h.row hb, own_kept h.piv hb, h.ap, fun i hi => ⟨(h.dat i hi).1.kept hb (h.dat i hi).1.lt, (h.dat i hi).2⟩⟩
theorem BaO.turned {g : Nat} {cs : List Value} (h : BaO W base x n B pv Q gA vU vR vP gs) (ht : Turned g W W') (hg : base ≤ g) (hb : Blk W g 3 cs) (h1 : vU.ownBlock ≠ some g) (h2 : vP.ownBlock ≠ some g) (h3 : ∀ i, i < B.length → gs i ≠ g) : BaO W' base x n B pv Q gA vU vR vP gs := by
  have hgr : W.grownBy W' (some g) := ⟨ht.os, ht.tape, ht.output, by rw [ht.size]; exact Nat.le_refl _, fun k _ hne => ht.block k (fun e => hne (by rw [e]))⟩
  have hbl : Below base W W' := ht.below (Below.refl _ _) hg
  refine ⟨h.gen.below hbl, h.uni.kept hgr (.inr h1), ?_, h.piv.kept hgr (.inr h2), h.ap, fun i hi => ⟨ht.blk (h.dat i hi).1 (h3 i hi), (h.dat i hi).2⟩⟩
  refine h.row.kept hgr (.inr fun e => ?_)
  exact own_ne h.row hb (by decide) e.symm
/-- To read. -/
theorem BaO.toM (h : BaO W base x n B pv Q gA vU vR vP gs) (hs : base ≤ W.heap.size) (hl : pv.length = B.length) : ∃ uA uc rA rc pA pc, vU = .slice uA B.length uc ∧ vR = .slice rA B.length rc ∧ vP = .slice pA pv.length pc ∧ BaM W x m n B pv Q gA uA rA pA := by
  obtain ⟨uA, uc, e1, _, _⟩ := own_form h.uni
  obtain ⟨rA, rc, e2, _, _⟩ := own_form h.row
  obtain ⟨pA, pc, e3, _, _⟩ := own_form h.piv
  subst e1 e2 e3
  rw [← hl]
  refine ⟨uA, uc, rA, rc, pA, pc, rfl, rfl, rfl, h.gen.wide hs, Sl.of_own h.uni, ⟨rowsV n gs B.length, ?_, ?_⟩, ?_⟩
  · rw [rowsL_len]; exact Sl.of_own h.row
  · have : ∀ p, p ≤ B.length → All2 (fun (l : List Int) u => ∃ A c, u = .slice A l.length c ∧ Sl W W.heap.size A 1 l.length (l.map iv)) (rowsL n Q p) (rowsV n gs p) := fun p => by
      induction p with
      | zero => intro _; exact trivial
      | succ p ih =>
        intro hp
        unfold rowsL rowsV
        rw [List.range_succ, List.map_append, List.map_append]
        refine All2.snoc ⟨some ⟨gs p, 0, none⟩, n + n, by rw [nl_len, show 2 * n = n + n by omega], ?_⟩ (ih (by omega))
        have hb := (h.dat p (by omega)).1
        rw [show 2 * n = n + n by omega, nl_len]
        exact ⟨by rw [List.length_map, nl_len, Nat.mul_one], fun _ => ⟨gs p, 0, rfl, hb.lt, fun j u hj => by rw [Nat.zero_add, hb.cell]; exact hj⟩⟩
    exact this B.length (Nat.le_refl _)
  · have := h.piv; rw [← hl] at this; exact Sl.of_own this
end
end Go.Proofs.YtpjgmekpnlpjaaaDoor
